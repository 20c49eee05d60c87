package poly

import (
	"math/big"
	"math/rand"
	"slices"
	"testing"

	"obscura/api"
)

const top = api.MaxMod

// numbers are the moduli of the tests with large polynomials: primes and others, the least ones and the greatest ones.
var numbers = []uint32{2, 3, 4, 6, 12, 17, 256, 4913, 65536, 65537, 46337 * 46337, 1 << 30, top - 18, top - 1, top}

// some is a list of residues.
type some = []uint32

// all returns all polynomials of at most n elements.
func all(m uint32, n int) [][]uint32 {
	list := [][]uint32{nil}
	lists := [][]uint32{nil}
	for range n {
		var longer [][]uint32
		for _, a := range lists {
			for c := range m {
				longer = append(longer, append(slices.Clone(a), c))
			}
		}
		for _, a := range longer {
			if a[len(a)-1] != 0 {
				list = append(list, a)
			}
		}
		lists = longer
	}
	return list
}

// drawn returns a list of n residues, many of which are 0, 1, or the greatest.
func drawn(r *rand.Rand, m uint32, n int) []uint32 {
	list := make([]uint32, n)
	for i := range list {
		list[i] = []uint32{0, 1, m - 1, uint32(r.Int63n(int64(m))), uint32(r.Int63n(int64(m))), uint32(r.Int63n(int64(m)))}[r.Intn(6)]
	}
	return list
}

// polynomial returns a polynomial of n elements; one in four has only the greatest residue.
func polynomial(r *rand.Rand, m uint32, n int) []uint32 {
	if r.Intn(4) == 0 {
		return slices.Repeat([]uint32{m - 1}, n)
	}
	list := drawn(r, m, n)
	if n > 0 && list[n-1] == 0 {
		list[n-1] = 1 + uint32(r.Int63n(int64(m-1)))
	}
	return list
}

// divider returns a polynomial of n elements, of which there is one at least, and whose last one is a unit.
func divider(r *rand.Rand, m uint32, n int) []uint32 {
	list := drawn(r, m, n)
	for !unit(list[n-1], m) {
		list[n-1] = uint32(r.Int63n(int64(m)))
	}
	return list
}

// unit reports whether a is prime to m.
func unit(a, m uint32) bool {
	return new(big.Int).GCD(nil, nil, big.NewInt(int64(a)), big.NewInt(int64(m))).Cmp(big.NewInt(1)) == 0
}

// exact returns the coefficients as integers.
func exact(a []uint32) []*big.Int {
	list := make([]*big.Int, len(a))
	for i, c := range a {
		list[i] = big.NewInt(int64(c))
	}
	return list
}

// reduced returns the polynomial modulo m with the coefficients of a list.
func reduced(m uint32, list []*big.Int) []uint32 {
	a := make([]uint32, len(list))
	for i, c := range list {
		a[i] = uint32(new(big.Int).Mod(c, big.NewInt(int64(m))).Uint64())
	}
	for len(a) > 0 && a[len(a)-1] == 0 {
		a = a[:len(a)-1]
	}
	return a
}

// exactSum returns a + k b modulo m.
func exactSum(m uint32, a []uint32, k int64, b []uint32) []uint32 {
	list := exact(slices.Concat(a, make([]uint32, max(0, len(b)-len(a)))))
	for i, c := range exact(b) {
		list[i].Add(list[i], c.Mul(c, big.NewInt(k)))
	}
	return reduced(m, list)
}

// exactProduct returns a b modulo m, which may have any length.
func exactProduct(m uint32, a, b []uint32) []uint32 {
	list := exact(make([]uint32, len(a)+len(b)))
	for i, c := range exact(a) {
		for j, d := range exact(b) {
			list[i+j].Add(list[i+j], d.Mul(d, c))
		}
	}
	return reduced(m, list)
}

// exactValue returns the value of a polynomial at x as the sum of its terms.
func exactValue(m uint32, a []uint32, x uint32) uint32 {
	sum, n := new(big.Int), big.NewInt(int64(m))
	for i, c := range exact(a) {
		sum.Add(sum, c.Mul(c, new(big.Int).Exp(big.NewInt(int64(x)), big.NewInt(int64(i)), n)))
	}
	return uint32(sum.Mod(sum, n).Uint64())
}

// checkList tests a result without an error; an empty list may be nil.
func checkList(t *testing.T, got []uint32, e api.Errno, want []uint32, format string, values ...any) {
	t.Helper()
	if e != api.OK || !slices.Equal(got, want) {
		t.Fatalf(format+": %v, error %d; want %v", append(values, got, e, want)...)
	}
}

// checkError tests an error and that nothing stands beside it.
func checkError(t *testing.T, got []uint32, e, want api.Errno, format string, values ...any) {
	t.Helper()
	if e != want || len(got) != 0 {
		t.Fatalf(format+": %v, error %d; want error %d", append(values, got, e, want)...)
	}
}

// must returns a result that has no error.
func must(t *testing.T) func(a []uint32, e api.Errno) []uint32 {
	return func(a []uint32, e api.Errno) []uint32 {
		t.Helper()
		if e != api.OK {
			t.Fatalf("error %d", e)
		}
		return a
	}
}
