package transform

import (
	"math/big"
	"math/rand"
	"slices"
	"testing"

	"obscura/api"
	"obscura/primes"
)

const top = api.MaxMod

var dimensions = []int{2, 4, 8, 16, 32}

// pair is a dimension and a fitting prime.
type pair struct {
	n int
	q uint32
}

// pairs are all dimensions with their least and greatest fitting primes, and some between.
func pairs(t *testing.T) []pair {
	t.Helper()
	var list []pair
	for _, n := range dimensions {
		step := uint32(2 * n)
		for _, at := range []uint32{2, 200, 65537, 1 << 24, 1 << 30} {
			q, e := primes.Next(at, step)
			if e != api.OK {
				t.Fatalf("Next(%d, %d): error %d", at, step, e)
			}
			list = append(list, pair{n, q})
		}
		for _, limit := range []uint32{top + 1, greatest(t, step)} {
			q, e := primes.Below(limit, step)
			if e != api.OK {
				t.Fatalf("Below(%d, %d): error %d", limit, step, e)
			}
			list = append(list, pair{n, q})
		}
	}
	return list
}

// greatest returns the greatest prime up to MaxMod that has a step.
func greatest(t *testing.T, step uint32) uint32 {
	t.Helper()
	q, e := primes.Below(top+1, step)
	if e != api.OK {
		t.Fatalf("Below(2^31, %d): error %d", step, e)
	}
	return q
}

// table returns the table of a dimension and a fitting prime.
func table(t *testing.T, n int, q uint32) *Table {
	t.Helper()
	s, e := New(n, q)
	if s == nil || e != api.OK {
		t.Fatalf("New(%d, %d): error %d", n, q, e)
	}
	return s
}

// forAll calls a test for the tables of all pairs.
func forAll(t *testing.T, f func(s *Table, n int, q uint32, r *rand.Rand)) {
	t.Helper()
	r := rand.New(rand.NewSource(71))
	for _, c := range pairs(t) {
		f(table(t, c.n, c.q), c.n, c.q, r)
	}
}

// unit returns the list of n residues that are 0, but for the element k.
func unit(n, k int, value uint32) []uint32 {
	list := make([]uint32, n)
	list[k] = value
	return list
}

// drawn returns a list of n residues, many of which are 0, 1, or the greatest.
func drawn(r *rand.Rand, n int, q uint32) []uint32 {
	list := make([]uint32, n)
	for i := range list {
		list[i] = []uint32{0, 1, q - 1, uint32(r.Int63n(int64(q))), uint32(r.Int63n(int64(q))), uint32(r.Int63n(int64(q)))}[r.Intn(6)]
	}
	return list
}

// lists are the zeros, the units, the greatest residues, and some others.
func lists(r *rand.Rand, n int, q uint32) [][]uint32 {
	list := [][]uint32{make([]uint32, n), slices.Repeat([]uint32{1}, n), slices.Repeat([]uint32{q - 1}, n), slices.Repeat([]uint32{q / 2}, n)}
	for k := range n {
		list = append(list, unit(n, k, 1), unit(n, k, q-1))
	}
	for range 8 {
		list = append(list, drawn(r, n, q))
	}
	return list
}

// all returns all lists of n residues.
func all(n int, q uint32) [][]uint32 {
	list := [][]uint32{nil}
	for range n {
		var longer [][]uint32
		for _, a := range list {
			for c := range q {
				longer = append(longer, append(slices.Clone(a), c))
			}
		}
		list = longer
	}
	return list
}

// badLists are no lists of n residues modulo q.
func badLists(n int, q uint32) [][]uint32 {
	list := [][]uint32{nil, {}, make([]uint32, n-1), make([]uint32, n+1), make([]uint32, 2*n), make([]uint32, 1000), slices.Repeat([]uint32{q}, n)}
	for k := range n {
		for _, bad := range []uint32{q, q + 1, 2*q - 1, top + 1, 1<<32 - 1} {
			list = append(list, unit(n, k, bad))
		}
	}
	return list
}

func number(v uint32) *big.Int { return big.NewInt(int64(v)) }

// residue returns the residue of an integer.
func residue(v *big.Int, q uint32) uint32 {
	return uint32(new(big.Int).Mod(v, number(q)).Uint64())
}

// power returns x^k modulo q; a negative k needs an x that is prime to q.
func power(x uint32, k int, q uint32) *big.Int {
	return new(big.Int).Exp(number(x), big.NewInt(int64(k)), number(q))
}

// weighted returns the sum of the elements times their factors, times the scale, modulo q.
func weighted(a []uint32, q uint32, scale *big.Int, factor func(i int) *big.Int) uint32 {
	sum := new(big.Int)
	for i, x := range a {
		sum.Add(sum, new(big.Int).Mul(number(x), factor(i)))
	}
	return residue(sum.Mul(sum, scale), q)
}

// exactForward returns the sums of a(i) psi^(i (2 j + 1)).
func exactForward(a []uint32, psi, q uint32) []uint32 {
	list := make([]uint32, len(a))
	for j := range list {
		list[j] = weighted(a, q, big.NewInt(1), func(i int) *big.Int { return power(psi, i*(2*j+1), q) })
	}
	return list
}

// exactInverse returns the sums of a(j) psi^(-i (2 j + 1)), divided by n.
func exactInverse(a []uint32, psi, q uint32) []uint32 {
	share := new(big.Int).ModInverse(big.NewInt(int64(len(a))), number(q))
	list := make([]uint32, len(a))
	for i := range list {
		list[i] = weighted(a, q, share, func(j int) *big.Int { return power(psi, -i*(2*j+1), q) })
	}
	return list
}

// exactProduct returns the product modulo x^n + 1.
func exactProduct(a, b []uint32, q uint32) []uint32 {
	n := len(a)
	sums := make([]*big.Int, n)
	for k := range sums {
		sums[k] = new(big.Int)
	}
	for i, x := range a {
		for j, y := range b {
			term := new(big.Int).Mul(number(x), number(y))
			if i+j >= n {
				term.Neg(term)
			}
			sums[(i+j)%n].Add(sums[(i+j)%n], term)
		}
	}
	list := make([]uint32, n)
	for k, v := range sums {
		list[k] = residue(v, q)
	}
	return list
}

// checkList tests a result without an error.
func checkList(t *testing.T, got []uint32, e api.Errno, want []uint32, format string, values ...any) {
	t.Helper()
	if e != api.OK || !slices.Equal(got, want) {
		t.Fatalf(format+": %v, error %d; want %v", append(values, got, e, want)...)
	}
}

// checkError tests an error and that nothing stands beside it.
func checkError(t *testing.T, got []uint32, e, want api.Errno, format string, values ...any) {
	t.Helper()
	if e != want || len(got) != 0 {
		t.Fatalf(format+": %v, error %d; want error %d", append(values, got, e, want)...)
	}
}

// must returns a result that has no error.
func must(t *testing.T) func(a []uint32, e api.Errno) []uint32 {
	return func(a []uint32, e api.Errno) []uint32 {
		t.Helper()
		if e != api.OK {
			t.Fatalf("error %d", e)
		}
		return a
	}
}
