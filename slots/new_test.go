package slots

import (
	"math"
	"math/big"
	"testing"

	"obscura/api"
)

// checkNew tests that there are slots just for a dimension, a plain prime that is 1 modulo 2 n, and a power that is no greater than MaxMod.
func checkNew(t *testing.T, n int, p uint32, r int) {
	t.Helper()
	valid := n == 4 || n == 8 || n == 16 || n == 32
	valid = valid && p < 65536 && prime(p) && p%uint32(2*n) == 1
	valid = valid && 1 <= r && r <= 31 && power(p, r).Cmp(big.NewInt(top)) <= 0
	s, e := New(n, p, r)
	switch {
	case valid && (s == nil || e != api.OK):
		t.Errorf("New(%d, %d, %d): error %d", n, p, r, e)
	case !valid && (s != nil || e != api.ErrArg):
		t.Errorf("New(%d, %d, %d): error %d; want ErrArg", n, p, r, e)
	}
}

// P8.1: the examples of the chapter.
func TestNewOfTheChapter(t *testing.T) {
	made(t, 4, 17, 1)
	made(t, 4, 17, 7)
	for _, c := range []setting{{n: 4, p: 13, r: 1}, {n: 2, p: 5, r: 1}, {n: 4, p: 17, r: 8}} {
		if s, e := New(c.n, c.p, c.r); s != nil || e != api.ErrArg {
			t.Errorf("New(%d, %d, %d): error %d; want ErrArg", c.n, c.p, c.r, e)
		}
	}
}

// P8.1: all small numbers.
func TestSmallNumbers(t *testing.T) {
	for n := -2; n <= 66; n++ {
		for p := uint32(0); p <= 700; p++ {
			for r := -1; r <= 3; r++ {
				checkNew(t, n, p, r)
			}
		}
	}
}

// P8.1: all odd numbers up to those behind 2^16, of which 65537 is a prime that is 1 modulo 64.
func TestPrimes(t *testing.T) {
	for _, n := range dimensions {
		for p := uint32(1); p < 66000; p += 2 {
			checkNew(t, n, p, 1)
		}
	}
}

// P8.1: all powers of fitting primes, and what is none; 46337^2 is at most MaxMod, the square of each prime behind it is above.
func TestPowers(t *testing.T) {
	for _, n := range dimensions {
		for i, p := range fitting(n) {
			if i > 20 && i%50 != 0 && (p < 45000 || p > 47000) && p < 65000 {
				continue
			}
			for r := range 12 {
				checkNew(t, n, p, r)
			}
			for _, r := range noExponents {
				checkNew(t, n, p, r)
			}
		}
	}
	made(t, 32, 46337, 2)
}

// P8.1: other limits of all arguments.
func TestNewRefuses(t *testing.T) {
	for _, n := range noDimensions {
		for _, p := range []uint32{5, 17, 97, 193, 257, 46337, 65521} {
			for _, r := range []int{math.MinInt, 0, 1, 2, math.MaxInt} {
				checkNew(t, n, p, r)
			}
		}
	}
	for _, n := range dimensions {
		for _, p := range []uint32{0, 1, 2, 17 * 17, 17 * 97, 193 * 257, 65535, 65536, 65537, 65536 + 17, 1<<17 + 17, 2147482817, top, top + 1, math.MaxUint32} {
			for _, r := range []int{math.MinInt, 0, 1, 2, math.MaxInt} {
				checkNew(t, n, p, r)
			}
		}
	}
}
