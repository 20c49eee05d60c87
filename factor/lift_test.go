package factor

import (
	"math"
	"math/big"
	"math/rand"
	"slices"
	"testing"

	"obscura/api"
)

// P7.4: the examples of the chapter.
func TestLiftOfTheChapter(t *testing.T) {
	x, e := Lift([]int64{-2, 0, 1}, 7, 2, 3)
	checkNumber(t, x, e, 10, "Lift of x^2 - 2")
	x, e = Lift([]int64{0, 0, 1}, 7, 2, 0)
	checkError(t, x, e, api.ErrNone, "Lift of x^2")
}

// small returns all lists of at most n integers of a few.
func small(n int, integers []int64) [][]int64 {
	list := [][]int64{nil}
	last := list
	for range n {
		var longer [][]int64
		for _, a := range last {
			for _, c := range integers {
				longer = append(longer, append(slices.Clone(a), c))
			}
		}
		list, last = append(list, longer...), longer
	}
	return list
}

// lifts returns the numbers below m that are congruent to a root modulo p and are roots modulo m.
func lifts(a []int64, p, m, root uint32) []uint32 {
	var list []uint32
	for x := root; x < m; x += p {
		v := int64(0)
		for i := len(a) - 1; i >= 0; i-- {
			v = (v*int64(x) + a[i]) % int64(m)
		}
		if v == 0 {
			list = append(list, x)
		}
	}
	return list
}

// P7.4: small polynomials with all roots, and what is no simple root, by a search; zeros at the end of a list are allowed.
func TestSmallLift(t *testing.T) {
	polynomials := append(small(4, []int64{-3, -1, 0, 1, 2}), small(3, []int64{-9, -5, -2, 0, 1, 4, 6, 9})...)
	for _, p := range []uint32{3, 5, 7} {
		for i, m := range moduli(p)[:3] {
			for _, a := range polynomials {
				for root := range p {
					checkSmallLift(t, a, p, m, i+1, root)
				}
			}
		}
	}
}

// checkSmallLift compares a result with the definitions.
func checkSmallLift(t *testing.T, a []int64, p, m uint32, r int, root uint32) {
	t.Helper()
	x, e := Lift(a, p, r, root)
	if exactValue(a, root, p) != 0 || exactSlope(a, root, p) == 0 {
		checkError(t, x, e, api.ErrNone, "Lift(%v, %d, %d, %d)", a, p, r, root)
		return
	}
	want := lifts(a, p, m, root)
	if len(want) != 1 {
		t.Fatalf("%v has the roots %v modulo %d", a, want, m)
	}
	checkNumber(t, x, e, want[0], "Lift(%v, %d, %d, %d)", a, p, r, root)
}

// drawn returns n integers, many of which are the least or the greatest.
func drawn(r *rand.Rand, n int) []int64 {
	list := make([]int64, n)
	for i := range list {
		list[i] = []int64{0, 1, -1, math.MinInt64, math.MaxInt64, int64(r.Uint64()), int64(r.Uint64()), r.Int63n(1<<40) - 1<<39}[r.Intn(8)]
	}
	return list
}

// P7.4: polynomials of up to 256 elements with integers of 64 bits, for all plain moduli of some primes.
func TestLift(t *testing.T) {
	r := rand.New(rand.NewSource(74))
	simple := 0
	for _, p := range []uint32{3, 5, 7, 17, 193, 257, 1289, 46337, 65521} {
		for _, n := range []int{2, 3, 4, 17, 100, 255, 256} {
			for range 8 {
				a, root := drawn(r, n), uint32(r.Int63n(int64(p)))
				if r.Intn(4) > 0 {
					// With the other constant term there is a root.
					a[0] = int64(p) - int64(exactValue(append([]int64{0}, a[1:]...), root, p)) + int64(p)*int64(r.Uint32())
				}
				for i, m := range moduli(p) {
					x, e := Lift(a, p, i+1, root)
					if exactValue(a, root, p) != 0 || exactSlope(a, root, p) == 0 {
						checkError(t, x, e, api.ErrNone, "Lift(%v, %d, %d, %d)", a, p, i+1, root)
						continue
					}
					simple++
					if e != api.OK || x >= m || x%p != root || exactValue(a, x, m) != 0 {
						t.Fatalf("Lift(%v, %d, %d, %d): %d, error %d", a, p, i+1, root, x, e)
					}
				}
			}
		}
	}
	if simple < 500 {
		t.Errorf("only %d simple roots", simple)
	}
}

// P7.4: the roots of x - c for every integer c, and of x^p - x, all of which are simple.
func TestLiftOfNumbers(t *testing.T) {
	for _, p := range []uint32{3, 5, 17, 251} {
		for i, m := range moduli(p) {
			for _, c := range []int64{0, 1, -1, 16, 17, 1 << 40, math.MaxInt64, -math.MaxInt64} {
				want := residue(big.NewInt(c), m)
				x, e := Lift([]int64{-c, 1}, p, i+1, want%p)
				checkNumber(t, x, e, want, "Lift of x - %d, %d, %d", c, p, i+1)
				x, e = Lift([]int64{-c, 1, 0, 0}, p, i+1, want%p)
				checkNumber(t, x, e, want, "Lift of x - %d with zeros, %d, %d", c, p, i+1)
			}
			a := make([]int64, p+1)
			a[1], a[p] = -1, 1
			for root := range p {
				x, e := Lift(a, p, i+1, root)
				if e != api.OK || x%p != root || power(x, int(p), m) != x {
					t.Fatalf("Lift of x^%d - x, %d, %d: %d, error %d", p, i+1, root, x, e)
				}
			}
		}
	}
}

// P7.4: no roots, roots that are not simple, and polynomials that are zero modulo p.
func TestNoSimpleRoot(t *testing.T) {
	for _, p := range []uint32{3, 17, 65521} {
		q := int64(p)
		for i := range moduli(p) {
			for _, c := range []struct {
				a    []int64
				root uint32
			}{
				{nil, 0}, {[]int64{}, 1}, {[]int64{0}, 0}, {[]int64{1}, 1}, {[]int64{q}, 0}, {make([]int64, 256), 2},
				{[]int64{0, 1}, 1}, {[]int64{0, 1}, p - 1}, {[]int64{1, 1}, 0}, {[]int64{1, 1, 0}, 1},
				{[]int64{0, q}, 0}, {[]int64{0, -q * q, q}, 1}, {[]int64{q, 0, 1}, 0}, {[]int64{1, -2, 1}, 1}, {[]int64{1, q - 2, 1 + q}, 1},
			} {
				x, e := Lift(c.a, p, i+1, c.root)
				checkError(t, x, e, api.ErrNone, "Lift(%v, %d, %d, %d)", c.a, p, i+1, c.root)
			}
		}
	}
	// The derivative of x^3 - x^2 + 3 x is 3 x^2 - 2 x + 3; it is 0 modulo 3 at 0, but not at 1.
	x, e := Lift([]int64{0, 3, -1, 1}, 3, 4, 0)
	checkError(t, x, e, api.ErrNone, "Lift of x^3 - x^2 + 3 x at 0")
	if x, e = Lift([]int64{0, 3, -1, 1}, 3, 4, 1); e != api.OK || exactValue([]int64{0, 3, -1, 1}, x, 81) != 0 || x%3 != 1 {
		t.Errorf("Lift of x^3 - x^2 + 3 x at 1: %d, error %d", x, e)
	}
}

// P7.4: the errors in their order.
func TestLiftRefuses(t *testing.T) {
	line, long := []int64{0, 1}, append([]int64{0, 1}, make([]int64, 255)...)
	check := func(a []int64, p uint32, r int, root uint32, want api.Errno) {
		t.Helper()
		x, e := Lift(a, p, r, root)
		checkError(t, x, e, want, "Lift of %d elements, %d, %d, %d", len(a), p, r, root)
	}
	for _, a := range [][]int64{nil, line, long, {1}, make([]int64, 1000)} {
		for _, p := range noPrimes {
			check(a, p, 1, 0, api.ErrArg)
			check(a, p, 2, p, api.ErrArg)
			check(a, p, 0, 0, api.ErrArg)
		}
		for _, r := range []int{math.MinInt, -1, 0, 8, 20, 64, 1<<32 + 1, math.MaxInt} {
			check(a, 17, r, 0, api.ErrArg)
		}
		for _, root := range []uint32{17, 18, 34, 288, top, math.MaxUint32} {
			check(a, 17, 1, root, api.ErrArg)
			check(a, 17, 2, root, api.ErrArg)
		}
		for _, c := range []struct {
			p uint32
			r int
		}{{3, 20}, {5, 14}, {1291, 3}, {46349, 2}, {65521, 2}} {
			check(a, c.p, c.r, 0, api.ErrArg)
		}
	}
	for _, root := range []uint32{0, 1, 16} {
		check(long, 17, 1, root, api.ErrLong)
		check(long, 17, 7, root, api.ErrLong)
		check(make([]int64, 257), 17, 2, root, api.ErrLong)
		check(make([]int64, 1000), 17, 2, root, api.ErrLong)
	}
	x, e := Lift(long[:256], 17, 7, 0)
	checkNumber(t, x, e, 0, "Lift of 256 elements")
}
