package transform

import (
	"math/big"
	"math/rand"
	"testing"

	"obscura/api"
)

// exactSum returns a + k b modulo q.
func exactSum(a []uint32, k uint32, b []uint32, q uint32) []uint32 {
	list := make([]uint32, len(a))
	for i, x := range a {
		term := new(big.Int).Mul(number(k), number(b[i]))
		list[i] = residue(term.Add(term, number(x)), q)
	}
	return list
}

// P6.4: Forward and Inverse are linear.
func TestLinear(t *testing.T) {
	forAll(t, func(s *Table, n int, q uint32, r *rand.Rand) {
		do := must(t)
		for _, a := range lists(r, n, q) {
			b := drawn(r, n, q)
			for _, k := range []uint32{0, 1, q - 1, uint32(r.Int63n(int64(q)))} {
				sum := exactSum(a, k, b, q)
				want := exactSum(do(s.Forward(a)), k, do(s.Forward(b)), q)
				checkList(t, do(s.Forward(sum)), api.OK, want, "Forward of %v + %d %v modulo %d", a, k, b, q)
				want = exactSum(do(s.Inverse(a)), k, do(s.Inverse(b)), q)
				checkList(t, do(s.Inverse(sum)), api.OK, want, "Inverse of %v + %d %v modulo %d", a, k, b, q)
			}
		}
	})
}

// P6.4: Forward and Inverse are inverse to each other.
func TestInverse(t *testing.T) {
	check := func(s *Table, q uint32, a []uint32) {
		do := must(t)
		checkList(t, do(s.Inverse(do(s.Forward(a)))), api.OK, a, "there and back modulo %d", q)
		checkList(t, do(s.Forward(do(s.Inverse(a)))), api.OK, a, "back and there modulo %d", q)
	}
	forAll(t, func(s *Table, n int, q uint32, r *rand.Rand) {
		for _, a := range lists(r, n, q) {
			check(s, q, a)
		}
	})
	s := table(t, 4, 17)
	for _, a := range all(4, 17) {
		check(s, 17, a)
	}
}

// P6.4: the values of a product are the products of the values, in both directions.
func TestValuesOfProducts(t *testing.T) {
	forAll(t, func(s *Table, n int, q uint32, r *rand.Rand) {
		do := must(t)
		for _, a := range lists(r, n, q) {
			b := drawn(r, n, q)
			values, others := do(s.Forward(a)), do(s.Forward(b))
			want := make([]uint32, n)
			for j := range want {
				want[j] = residue(new(big.Int).Mul(number(values[j]), number(others[j])), q)
			}
			product := do(s.Mul(a, b))
			checkList(t, do(s.Forward(product)), api.OK, want, "Forward of %v times %v modulo %d", a, b, q)
			checkList(t, do(s.Inverse(want)), api.OK, product, "Inverse of %v modulo %d", want, q)
		}
	})
}

// P6.4: the places of the values are the roots of x^n + 1, and all of them are different.
func TestPlaces(t *testing.T) {
	forAll(t, func(s *Table, n int, q uint32, _ *rand.Rand) {
		found := map[uint32]bool{}
		for _, w := range must(t)(s.Forward(unit(n, 1, 1))) {
			if residue(power(w, n, q), q) != q-1 {
				t.Errorf("%d is a place for %d and %d", w, n, q)
			}
			found[w] = true
		}
		if len(found) != n {
			t.Errorf("%d places for %d and %d", len(found), n, q)
		}
	})
}
