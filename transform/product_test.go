package transform

import (
	"math/rand"
	"testing"

	"obscura/api"
)

// P6.3: the example, and a product without a wrap.
func TestMulOfTheChapter(t *testing.T) {
	s := table(t, 4, 17)
	got, e := s.Mul([]uint32{0, 1, 0, 0}, []uint32{0, 0, 0, 1})
	checkList(t, got, e, []uint32{16, 0, 0, 0}, "Mul")
	got, e = s.Mul([]uint32{1, 2, 0, 0}, []uint32{3, 4, 0, 0})
	checkList(t, got, e, []uint32{3, 10, 8, 0}, "Mul")
}

// P6.3: all products modulo small primes.
func TestSmallMul(t *testing.T) {
	for _, q := range []uint32{5, 13} {
		s, list := table(t, 2, q), all(2, q)
		for _, a := range list {
			for _, b := range list {
				got, e := s.Mul(a, b)
				checkList(t, got, e, exactProduct(a, b, q), "Mul(%v, %v) modulo %d", a, b, q)
			}
		}
	}
}

// P6.3: the products of powers of x for all dimensions; the power n is -1.
func TestMulOfPowers(t *testing.T) {
	forAll(t, func(s *Table, n int, q uint32, _ *rand.Rand) {
		for i := range n {
			for j := range n {
				a, b := unit(n, i, q-1), unit(n, j, 2)
				want := unit(n, (i+j)%n, q-2)
				if i+j >= n {
					want = unit(n, (i+j)%n, 2)
				}
				got, e := s.Mul(a, b)
				checkList(t, got, e, want, "Mul(%v, %v) modulo %d", a, b, q)
			}
		}
	})
}

// P6.3: the sums of the chapter for all dimensions, up to the greatest primes.
func TestMul(t *testing.T) {
	forAll(t, func(s *Table, n int, q uint32, r *rand.Rand) {
		for _, a := range lists(r, n, q) {
			b := drawn(r, n, q)
			got, e := s.Mul(a, b)
			checkList(t, got, e, exactProduct(a, b, q), "Mul(%v, %v) modulo %d", a, b, q)
			got, e = s.Mul(a, a)
			checkList(t, got, e, exactProduct(a, a, q), "Mul(%v, %v) modulo %d", a, a, q)
		}
	})
}

// P6.3: what is no list, as either factor.
func TestMulRefuses(t *testing.T) {
	forAll(t, func(s *Table, n int, q uint32, r *rand.Rand) {
		good := drawn(r, n, q)
		for _, a := range badLists(n, q) {
			got, e := s.Mul(a, good)
			checkError(t, got, e, api.ErrArg, "Mul(%v, %v) for %d and %d", a, good, n, q)
			got, e = s.Mul(good, a)
			checkError(t, got, e, api.ErrArg, "Mul(%v, %v) for %d and %d", good, a, n, q)
			got, e = s.Mul(a, a)
			checkError(t, got, e, api.ErrArg, "Mul(%v, %v) for %d and %d", a, a, n, q)
		}
	})
}
