package factor

import (
	"math"
	"testing"

	"obscura/api"
)

// P7.3: the examples of the chapter.
func TestRootOfTheChapter(t *testing.T) {
	x, e := Root(4, 17, 1)
	checkNumber(t, x, e, 2, "Root(4, 17, 1)")
	x, e = Root(4, 17, 2)
	checkNumber(t, x, e, 155, "Root(4, 17, 2)")
	x, e = Root(4, 3, 1)
	checkError(t, x, e, api.ErrNone, "Root(4, 3, 1)")
}

// P7.3: for all dimensions and plain moduli the result is a root that is congruent to the least one modulo p, of which there is just one; without a root modulo p, ErrNone.
func TestRoot(t *testing.T) {
	for _, n := range dimensions {
		for _, p := range plainPrimes() {
			if p%uint32(2*n) != 1 {
				checkNoRoot(t, n, p)
				continue
			}
			least, _ := leastRoot(n, p)
			for i, m := range moduli(p) {
				x, e := Root(n, p, i+1)
				if e != api.OK || x >= m || power(x, n, m) != m-1 || x%p != least {
					t.Fatalf("Root(%d, %d, %d): %d, error %d; the least root modulo %d is %d", n, p, i+1, x, e, p, least)
				}
			}
		}
	}
}

// checkNoRoot tests that there is no root for any plain modulus of a prime.
func checkNoRoot(t *testing.T, n int, p uint32) {
	t.Helper()
	if p < 1000 {
		if z, ok := leastRoot(n, p); ok {
			t.Fatalf("%d is a root of x^%d + 1 modulo %d", z, n, p)
		}
	}
	for i := range moduli(p) {
		x, e := Root(n, p, i+1)
		checkError(t, x, e, api.ErrNone, "Root(%d, %d, %d)", n, p, i+1)
	}
}

// P7.6: the odd powers of the root are n roots that differ modulo p.
func TestPowersOfRoot(t *testing.T) {
	for _, n := range dimensions {
		for _, p := range somePrimes(2000, 20) {
			for i, m := range moduli(p) {
				x, e := Root(n, p, i+1)
				if e != api.OK {
					continue
				}
				found := map[uint32]bool{}
				for k := 1; k < 2*n; k += 2 {
					z := power(x, k, m)
					if power(z, n, m) != m-1 {
						t.Fatalf("Root(%d, %d, %d): the power %d of %d is no root", n, p, i+1, k, x)
					}
					found[z%p] = true
				}
				if len(found) != n {
					t.Fatalf("Root(%d, %d, %d): %d roots modulo %d", n, p, i+1, len(found), p)
				}
			}
		}
	}
}

// P7.3: the greatest plain moduli, and the exponents behind them; ErrArg comes before ErrNone.
func TestGreatestExponents(t *testing.T) {
	for _, c := range []struct {
		p uint32
		r int
	}{{3, 19}, {5, 13}, {17, 7}, {97, 4}, {1217, 3}, {1289, 3}, {1291, 2}, {46337, 2}, {46349, 1}, {65521, 1}} {
		for _, n := range dimensions {
			if _, e := Root(n, c.p, c.r); e != api.OK && e != api.ErrNone {
				t.Errorf("Root(%d, %d, %d): error %d", n, c.p, c.r, e)
			}
			x, e := Root(n, c.p, c.r+1)
			checkError(t, x, e, api.ErrArg, "Root(%d, %d, %d)", n, c.p, c.r+1)
		}
	}
	x, e := Root(32, 46337, 2)
	if e != api.OK || power(x, 32, 46337*46337) != 46337*46337-1 {
		t.Errorf("Root(32, 46337, 2): %d, error %d", x, e)
	}
}

// P7.3: what is no dimension, no plain prime or no exponent, also where p is not 1 modulo 2 n.
func TestRootRefuses(t *testing.T) {
	refuse := func(n int, p uint32, r int) {
		t.Helper()
		x, e := Root(n, p, r)
		checkError(t, x, e, api.ErrArg, "Root(%d, %d, %d)", n, p, r)
	}
	for _, p := range []uint32{3, 5, 17, 193, 65521} {
		for _, n := range noDimensions {
			refuse(n, p, 1)
			refuse(n, p, 0)
		}
		for _, n := range dimensions {
			for _, r := range []int{math.MinInt, -1, 0, 20, 21, 32, 64, 1 << 32, 1<<32 + 1, math.MaxInt} {
				refuse(n, p, r)
			}
		}
	}
	for _, n := range append(dimensions, noDimensions...) {
		for _, p := range noPrimes {
			refuse(n, p, 1)
			refuse(n, p, 2)
			refuse(n, p, 0)
		}
	}
}
