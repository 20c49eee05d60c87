package transform

import (
	"math"
	"math/big"
	"testing"

	"obscura/api"
)

// checkNoTable tests that there is no table for a dimension and a prime.
func checkNoTable(t *testing.T, n int, q uint32) {
	t.Helper()
	if s, e := New(n, q); s != nil || e != api.ErrArg {
		t.Errorf("New(%d, %d): error %d; want ErrArg", n, q, e)
	}
}

// least returns the least number whose power with the exponent n is -1 modulo q, by trying all of them, or 0 if there is none.
func least(n int, q uint32) uint32 {
	for a := uint32(1); a < q; a++ {
		if residue(power(a, n, q), q) == q-1 {
			return a
		}
	}
	return 0
}

// P6.1: the example.
func TestTablesOfTheChapter(t *testing.T) {
	if psi := table(t, 4, 17).Root(); psi != 2 {
		t.Errorf("Root for 4 and 17: %d", psi)
	}
	checkNoTable(t, 4, 13)
	checkNoTable(t, 3, 17)
	checkNoTable(t, 64, 257)
}

// P6.1: all small numbers; there are tables just for dimensions and fitting primes, and their roots are the least ones.
func TestSmallTables(t *testing.T) {
	for n := -3; n <= 70; n++ {
		valid := n == 2 || n == 4 || n == 8 || n == 16 || n == 32
		for q := uint32(0); q <= 1500; q++ {
			if !valid || !number(q).ProbablyPrime(0) || q%uint32(2*n) != 1 {
				checkNoTable(t, n, q)
				continue
			}
			if psi, want := table(t, n, q).Root(), least(n, q); psi != want {
				t.Errorf("Root for %d and %d: %d; want %d", n, q, psi, want)
			}
		}
	}
}

// P6.1: great primes. The root is the least one of its odd powers: these are n different numbers whose powers with the exponent n are -1, and a field has no more of them.
func TestRoots(t *testing.T) {
	for _, c := range pairs(t) {
		psi := table(t, c.n, c.q).Root()
		found := map[uint32]bool{}
		for j := range c.n {
			w := residue(power(psi, 2*j+1, c.q), c.q)
			if w < psi || residue(power(w, c.n, c.q), c.q) != c.q-1 {
				t.Errorf("Root for %d and %d: %d, of which %d is a power", c.n, c.q, psi, w)
			}
			found[w] = true
		}
		if len(found) != c.n {
			t.Errorf("Root for %d and %d: %d has %d odd powers", c.n, c.q, psi, len(found))
		}
	}
	for _, c := range []pair{{2, 65537}, {4, 65537}, {32, 65537}, {2, 1000033}, {16, 1000033}} {
		if psi, want := table(t, c.n, c.q).Root(), least(c.n, c.q); psi != want {
			t.Errorf("Root for %d and %d: %d; want %d", c.n, c.q, psi, want)
		}
	}
}

// P6.1: every number that is 1 modulo 2 n, around the limit, is a fitting prime just if it is a prime of at most MaxMod.
func TestFittingPrimes(t *testing.T) {
	for _, n := range dimensions {
		fitting := 0
		for q := uint32(1<<31 + 1 - 400*n); q < 1<<31+uint32(400*n); q += uint32(2 * n) {
			if q > top || !number(q).ProbablyPrime(0) {
				checkNoTable(t, n, q)
				continue
			}
			table(t, n, q)
			fitting++
		}
		if fitting == 0 {
			t.Errorf("no fitting prime for %d was tried", n)
		}
	}
}

// P6.1: primes that are not 1 modulo 2 n, primes above MaxMod that are, products of primes that are, and other limits.
func TestNoFittingPrimes(t *testing.T) {
	for _, n := range dimensions {
		for _, q := range []uint32{0, 1, 2, 3, top, top + 1, 46337 * 46337, 193 * 257, 257 * 257, 65537 * 193, math.MaxUint32 - 4, math.MaxUint32} {
			checkNoTable(t, n, q)
		}
		// They have the step n, but not 2 n.
		for k, found := uint32(1), 0; found < 20; k += 2 {
			if q := k*uint32(n) + 1; number(q).ProbablyPrime(0) {
				checkNoTable(t, n, q)
				found++
			}
		}
		for k, found := int64(1<<31/(2*n)), 0; found < 20; k++ {
			if q := big.NewInt(k*int64(2*n) + 1); q.ProbablyPrime(0) {
				checkNoTable(t, n, uint32(q.Uint64()))
				found++
			}
		}
	}
}

// P6.1: what is no dimension, also if a few of its bits are those of one.
func TestNoDimensions(t *testing.T) {
	for _, n := range []int{math.MinInt, math.MinInt + 4, -1 << 32, -32, -4, -1, 0, 1, 64, 128, 256, 1<<8 + 4, 1<<16 + 4, 1<<31 + 4, 1<<32 + 4, 1<<63 - 4, math.MaxInt} {
		for _, q := range []uint32{0, 2, 5, 17, 97, 193, 257, 65537, greatest(t, 64), greatest(t, 512)} {
			checkNoTable(t, n, q)
		}
	}
}
