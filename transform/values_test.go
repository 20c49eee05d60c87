package transform

import (
	"math/rand"
	"testing"

	"obscura/api"
)

// checkValues tests both directions of a list.
func checkValues(t *testing.T, s *Table, q uint32, a []uint32) {
	t.Helper()
	psi := s.Root()
	got, e := s.Forward(a)
	checkList(t, got, e, exactForward(a, psi, q), "Forward(%v) modulo %d", a, q)
	got, e = s.Inverse(a)
	checkList(t, got, e, exactInverse(a, psi, q), "Inverse(%v) modulo %d", a, q)
}

// P6.2: the examples.
func TestValuesOfTheChapter(t *testing.T) {
	s := table(t, 4, 17)
	for _, c := range []struct{ a, want []uint32 }{
		{[]uint32{1, 0, 0, 0}, []uint32{1, 1, 1, 1}},
		{[]uint32{0, 1, 0, 0}, []uint32{2, 8, 15, 9}},
	} {
		got, e := s.Forward(c.a)
		checkList(t, got, e, c.want, "Forward(%v)", c.a)
		got, e = s.Inverse(c.want)
		checkList(t, got, e, c.a, "Inverse(%v)", c.want)
	}
}

// P6.2: all lists modulo small primes.
func TestSmallValues(t *testing.T) {
	for _, q := range []uint32{5, 13, 17, 29} {
		s := table(t, 2, q)
		for _, a := range all(2, q) {
			checkValues(t, s, q, a)
		}
	}
	s := table(t, 4, 17)
	for i, a := range all(4, 17) {
		if i%7 == 0 {
			checkValues(t, s, 17, a)
		}
	}
}

// P6.2: the sums of the chapter for all dimensions, up to the greatest primes.
func TestValues(t *testing.T) {
	forAll(t, func(s *Table, n int, q uint32, r *rand.Rand) {
		for _, a := range lists(r, n, q) {
			checkValues(t, s, q, a)
		}
	})
}

// P6.2: what is no list.
func TestValuesRefuse(t *testing.T) {
	forAll(t, func(s *Table, n int, q uint32, _ *rand.Rand) {
		for _, a := range badLists(n, q) {
			got, e := s.Forward(a)
			checkError(t, got, e, api.ErrArg, "Forward(%v) for %d and %d", a, n, q)
			got, e = s.Inverse(a)
			checkError(t, got, e, api.ErrArg, "Inverse(%v) for %d and %d", a, n, q)
		}
	})
}
