package residue

import (
	"math/big"
	"math/rand"
	"slices"
	"strings"
	"testing"

	"obscura/api"
	"obscura/primes"
)

const top = api.MaxMod

// exact returns the integer that a valid form stands for.
func exact(x api.Wide) *big.Int {
	v := new(big.Int).SetBytes([]byte(x.Mag))
	if x.Neg {
		v.Neg(v)
	}
	return v
}

// wideOf returns the form of an integer in range.
func wideOf(v *big.Int) api.Wide {
	return api.Wide{Neg: v.Sign() < 0, Mag: string(v.Bytes())}
}

// badForms are values of api.Wide that are not valid.
func badForms() []api.Wide {
	return []api.Wide{
		{Neg: true},
		{Mag: "\x00"},
		{Neg: true, Mag: "\x00\x01"},
		{Mag: strings.Repeat("\xff", 257)},
		{Mag: "\x01" + strings.Repeat("\x00", 256)},
	}
}

// system returns the system of some primes.
func system(t *testing.T, moduli ...uint32) *System {
	t.Helper()
	s, e := New(moduli)
	if s == nil || e != api.OK {
		t.Fatalf("New(%v): error %d", moduli, e)
	}
	return s
}

// chain returns some of the greatest primes that are 1 modulo 272.
func chain(t *testing.T, count int) []uint32 {
	t.Helper()
	l, e := primes.Chain(8, 17, count)
	if e != api.OK {
		t.Fatalf("Chain: error %d", e)
	}
	return l
}

// smallSystems have products that are small enough for all their rows.
func smallSystems() [][]uint32 {
	return [][]uint32{{3}, {5}, {101}, {3, 5}, {5, 3}, {3, 7, 5}, {3, 5, 7}, {7, 5, 3}, {13, 3, 5}, {3, 17, 11}, {3, 5, 7, 11}, {11, 7, 5, 3}, {5, 11, 3, 7}}
}

// greatSystems have primes up to MaxMod, and up to MaxModuli of them, in several orders.
func greatSystems(t *testing.T) [][]uint32 {
	down := chain(t, api.MaxModuli)
	up := slices.Clone(down)
	slices.Reverse(up)
	odd := []uint32{3, 5, 7, 11, 13, 17, 19, 23, 29, 31, 37, 41, 43, 47, 53, 59, 61, 67, 71, 73, 79, 83, 89, 97, 101}
	return [][]uint32{
		{top}, {65537}, {3, top}, {top, 3}, {top, 2147483629}, {2147483629, top}, {257, top, 17, 65537},
		down[:2], down[:9], down, up, odd, {1073741827, 3, top, 193, 2147483629, 5},
		greatest(t),
	}
}

// greatest returns the 25 greatest primes up to MaxMod.
func greatest(t *testing.T) []uint32 {
	var l []uint32
	limit := uint32(top + 1)
	for range api.MaxModuli {
		p, e := primes.Below(limit, 1)
		if e != api.OK {
			t.Fatalf("Below(%d, 1): error %d", limit, e)
		}
		l, limit = append(l, p), p
	}
	return l
}

// product returns the product of some primes.
func product(moduli []uint32) *big.Int {
	q := big.NewInt(1)
	for _, p := range moduli {
		q.Mul(q, big.NewInt(int64(p)))
	}
	return q
}

// half returns (Q - 1) / 2.
func half(moduli []uint32) *big.Int { return new(big.Int).Rsh(product(moduli), 1) }

// rowOf returns the residues of an integer.
func rowOf(v *big.Int, moduli []uint32) []uint32 {
	var r []uint32
	for _, p := range moduli {
		r = append(r, uint32(new(big.Int).Mod(v, big.NewInt(int64(p))).Uint64()))
	}
	return r
}

// balancedBy returns the balanced remainder of v by an odd m.
func balancedBy(v, m *big.Int) *big.Int {
	r := new(big.Int).Mod(v, m)
	if new(big.Int).Lsh(r, 1).Cmp(m) > 0 {
		r.Sub(r, m)
	}
	return r
}

// integers are those from -(Q - 1) / 2 to (Q - 1) / 2: all of them, or, if there are many, the ends, zero and the multiples of products of some of the primes with their neighbours, and others.
func integers(moduli []uint32, r *rand.Rand) []*big.Int {
	q, h := product(moduli), half(moduli)
	var list []*big.Int
	if q.Cmp(big.NewInt(2000)) < 0 {
		for v := -h.Int64(); v <= h.Int64(); v++ {
			list = append(list, big.NewInt(v))
		}
		return list
	}
	add := func(v *big.Int) {
		for d := int64(-2); d <= 2; d++ {
			list = append(list, balancedBy(new(big.Int).Add(v, big.NewInt(d)), q))
		}
	}
	add(new(big.Int))
	add(h)
	for i := range moduli {
		add(product(moduli[:i]))
		add(half(moduli[:i+1]))
		add(new(big.Int).Neg(product(moduli[i:])))
	}
	for range 30 {
		list = append(list, balancedBy(new(big.Int).Rand(r, q), q))
	}
	return list
}

// forAll calls a test for the systems and some integers of each.
func forAll(t *testing.T, lists [][]uint32, f func(s *System, moduli []uint32, v *big.Int)) {
	t.Helper()
	r := rand.New(rand.NewSource(1))
	for _, moduli := range lists {
		s := system(t, moduli...)
		for _, v := range integers(moduli, r) {
			f(s, moduli, v)
		}
	}
}

// allSystems are small and great ones.
func allSystems(t *testing.T) [][]uint32 { return append(smallSystems(), greatSystems(t)...) }

// badRows are no rows of the system.
func badRows(moduli []uint32) [][]uint32 {
	zeros := make([]uint32, len(moduli))
	list := [][]uint32{nil, {}, zeros[1:], append(slices.Clone(zeros), 0), append(slices.Clone(zeros), zeros...)}
	for i, p := range moduli {
		for _, a := range []uint32{p, p + 1, 2 * p, 1<<32 - 1} {
			bad := slices.Clone(zeros)
			bad[i] = a
			list = append(list, bad)
		}
	}
	return list
}

func checkRow(t *testing.T, got []uint32, e api.Errno, want []uint32, what string, args ...any) {
	t.Helper()
	if !slices.Equal(got, want) || e != api.OK {
		t.Fatalf(what+": %v, error %d; want %v", append(args, got, e, want)...)
	}
}

func checkError(t *testing.T, got []uint32, e, want api.Errno, what string, args ...any) {
	t.Helper()
	if len(got) != 0 || e != want {
		t.Errorf(what+": %v, error %d; want %d", append(args, got, e, want)...)
	}
}
