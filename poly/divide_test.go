package poly

import (
	"math"
	"math/rand"
	"slices"
	"testing"

	"obscura/api"
)

// checkDivision tests that a = q b + r, where r has fewer elements than b, if the last element of b is a unit, and that a division is refused otherwise.
func checkDivision(t *testing.T, m uint32, a, b []uint32) {
	t.Helper()
	q, r, e := DivMod(m, a, b)
	if len(b) == 0 || !unit(b[len(b)-1], m) {
		checkError(t, slices.Concat(q, r), e, api.ErrRange, "DivMod(%d, %v, %v)", m, a, b)
		return
	}
	if Check(m, q) != api.OK || Check(m, r) != api.OK || len(r) >= len(b) {
		t.Fatalf("DivMod(%d, %v, %v): %v and %v", m, a, b, q, r)
	}
	checkList(t, exactSum(m, exactProduct(m, q, b), 1, r), e, a, "DivMod(%d, %v, %v) is %v and %v", m, a, b, q, r)
}

// P5.3: quotients and rests, also by numbers that are no primes.
func TestDivMod(t *testing.T) {
	forPairs(t, func(m uint32, a, b []uint32) {
		checkDivision(t, m, a, b)
		checkDivision(t, m, b, a)
	})
	r := rand.New(rand.NewSource(54))
	for _, m := range numbers {
		for _, n := range [][2]int{{256, 256}, {256, 255}, {255, 256}, {256, 128}, {256, 1}, {100, 99}, {9, 2}, {0, 5}} {
			checkDivision(t, m, polynomial(r, m, n[0]), divider(r, m, n[1]))
			checkDivision(t, m, polynomial(r, m, n[0]), polynomial(r, m, n[1]))
		}
	}
}

// The examples of the chapter for P5.3 to P5.5.
func TestDivisionsOfTheChapter(t *testing.T) {
	q, r, e := DivMod(17, some{2, 0, 0, 1}, some{1, 1})
	checkList(t, q, e, some{1, 16, 1}, "the quotient")
	checkList(t, r, e, some{1}, "the rest")
	q, r, e = DivMod(6, some{0, 1}, some{0, 2})
	checkError(t, slices.Concat(q, r), e, api.ErrRange, "DivMod modulo 6")
	got, e := Gcd(17, some{16, 0, 1}, some{1, 15, 1})
	checkList(t, got, e, some{16, 1}, "Gcd")
	got, e = PowMod(17, some{0, 1}, 4, some{1, 0, 1})
	checkList(t, got, e, some{1}, "PowMod of x")
	got, e = PowMod(17, nil, 0, some{1, 0, 1})
	checkList(t, got, e, some{1}, "PowMod of nothing")
}

// divides reports whether b divides a, modulo a prime.
func divides(t *testing.T, p uint32, b, a []uint32) bool {
	t.Helper()
	if len(b) == 0 {
		return len(a) == 0
	}
	_, r, e := DivMod(p, a, b)
	if e != api.OK {
		t.Fatalf("DivMod(%d, %v, %v): error %d", p, a, b, e)
	}
	return len(r) == 0
}

// P5.4 and P5.10: the result divides both polynomials, every common divisor divides it, and it is monic or nothing.
func TestGcd(t *testing.T) {
	for p, n := range map[uint32]int{2: 5, 3: 4, 5: 3, 7: 2} {
		list := all(p, n)
		for _, a := range list {
			for _, b := range list {
				g, e := Gcd(p, a, b)
				checkMonic(t, p, g, e, a, b)
				for _, c := range list {
					if divides(t, p, c, a) && divides(t, p, c, b) && !divides(t, p, c, g) {
						t.Fatalf("Gcd(%d, %v, %v) is %v, which %v does not divide", p, a, b, g, c)
					}
				}
			}
		}
	}
}

// checkMonic tests that a greatest common divisor divides both polynomials and that its last element is 1 unless both are empty.
func checkMonic(t *testing.T, p uint32, g []uint32, e api.Errno, a, b []uint32) {
	t.Helper()
	if len(a) == 0 && len(b) == 0 {
		checkList(t, g, e, nil, "Gcd(%d) of nothing", p)
		return
	}
	if e != api.OK || len(g) == 0 || g[len(g)-1] != 1 || Check(p, g) != api.OK {
		t.Fatalf("Gcd(%d, %v, %v): %v, error %d", p, a, b, g, e)
	}
	if !divides(t, p, g, a) || !divides(t, p, g, b) {
		t.Fatalf("Gcd(%d, %v, %v) is %v, which does not divide both", p, a, b, g)
	}
}

// P5.4 and P5.10: products with a known factor in common, of which nothing is left to what a linear factor tells apart.
func TestLongGcd(t *testing.T) {
	r := rand.New(rand.NewSource(55))
	do := must(t)
	for _, p := range []uint32{2, 3, 17, 65537, top - 18, top} {
		for _, n := range []int{0, 1, 2, 30, 120} {
			// x^n and 1 + x have no factor in common.
			a, b, common := append(make(some, n), 1), some{1, 1}, polynomial(r, p, 100)
			common[99] = 1
			c, d := exactProduct(p, a, common), exactProduct(p, b, common)
			checkList(t, do(Gcd(p, c, d)), api.OK, common, "Gcd(%d, %v, %v)", p, c, d)
			checkList(t, do(Gcd(p, d, c)), api.OK, common, "Gcd(%d, %v, %v)", p, d, c)
			scaled := exactProduct(p, c, some{p - 1})
			checkList(t, do(Gcd(p, scaled, nil)), api.OK, c, "Gcd(%d, %v, nothing)", p, scaled)
			checkList(t, do(Gcd(p, nil, scaled)), api.OK, c, "Gcd(%d, nothing, %v)", p, scaled)
			checkList(t, do(Gcd(p, scaled, scaled)), api.OK, c, "Gcd(%d, twice %v)", p, scaled)
		}
		a, b := polynomial(r, p, 256), polynomial(r, p, 255)
		g, e := Gcd(p, a, b)
		checkMonic(t, p, g, e, a, b)
	}
}

// P5.4: a number that is no prime comes before the errors of the polynomials.
func TestGcdRefuses(t *testing.T) {
	for _, p := range append([]uint32{4, 6, 9, 15, 561, 2047, 65536, 46337 * 46337, top - 1}, noModuli...) {
		for _, a := range [][]uint32{nil, {1}, {1, 1}, {0}, {p}, slices.Repeat([]uint32{1}, 257)} {
			got, e := Gcd(p, a, some{1})
			checkError(t, got, e, api.ErrArg, "Gcd(%d, %v, 1)", p, a)
			got, e = Gcd(p, some{1}, a)
			checkError(t, got, e, api.ErrArg, "Gcd(%d, 1, %v)", p, a)
		}
	}
}

// P5.5: powers by products that follow each other, each divided exactly.
func TestPowMod(t *testing.T) {
	r := rand.New(rand.NewSource(56))
	for _, m := range numbers {
		for _, n := range [][2]int{{0, 1}, {0, 4}, {5, 1}, {1, 2}, {2, 2}, {2, 4}, {9, 4}, {40, 20}} {
			a, f := polynomial(r, m, n[0]), divider(r, m, n[1])
			_, want, e := DivMod(m, some{1}, f)
			for k := range uint64(20) {
				got, e2 := PowMod(m, a, k, f)
				checkList(t, got, max(e, e2), want, "PowMod(%d, %v, %d, %v)", m, a, k, f)
				_, want, e = DivMod(m, exactProduct(m, want, a), f)
			}
		}
	}
}

// P5.5: the longest polynomials, whose square is longer than any polynomial.
func TestLongPowers(t *testing.T) {
	r := rand.New(rand.NewSource(57))
	for _, m := range numbers {
		a, b := polynomial(r, m, 256), polynomial(r, m, 128)
		// Wrap is the remainder by x^255 + 1.
		f := slices.Concat(some{1}, make(some, 254), some{1})
		for _, c := range [][]uint32{a, b} {
			got, e := PowMod(m, c, 2, f)
			checkList(t, got, e, wrappedBy(m, exactProduct(m, c, c), 255), "PowMod(%d, .., 2, x^255 + 1)", m)
		}
		got, e := PowMod(m, some{0, 1}, 255, f)
		checkList(t, got, e, some{m - 1}, "PowMod(%d, x, 255, x^255 + 1)", m)
		got, e = PowMod(m, some{0, 1}, math.MaxUint64, f)
		// 2^64 - 1 is 0 modulo 255, and the quotient is odd.
		checkList(t, got, e, some{m - 1}, "PowMod(%d, x, 2^64 - 1, x^255 + 1)", m)
		got, e = PowMod(m, some{0, 1}, math.MaxUint64-1, f)
		checkList(t, got, e, append(make(some, 254), 1), "PowMod(%d, x, 2^64 - 2, x^255 + 1)", m)
	}
}

// wrappedBy returns the remainder modulo x^n + 1 without zeros at its end, by the chapter's formula.
func wrappedBy(m uint32, a []uint32, n int) []uint32 {
	var sum []uint32
	sign := int64(1)
	for part := range slices.Chunk(a, n) {
		sum = exactSum(m, sum, sign, part)
		sign = -sign
	}
	return sum
}

// P5.5: the greatest exponents, by the order of the residues and by the product of two powers.
func TestGreatPowers(t *testing.T) {
	r := rand.New(rand.NewSource(58))
	do := must(t)
	for _, m := range numbers {
		f, a := divider(r, m, 8), polynomial(r, m, 11)
		for _, n := range []uint64{1 << 31, 1 << 32, 1<<63 - 1, 1 << 63, math.MaxUint64} {
			half := do(PowMod(m, a, n/2, f))
			rest := do(PowMod(m, a, n-n/2, f))
			_, want, e := DivMod(m, exactProduct(m, half, rest), f)
			checkList(t, do(PowMod(m, a, n, f)), e, want, "PowMod(%d, %v, %d, %v)", m, a, n, f)
		}
		for _, f := range [][]uint32{{1}, {m - 1}} {
			for _, n := range []uint64{0, 1, 2, math.MaxUint64} {
				checkList(t, do(PowMod(m, a, n, f)), api.OK, nil, "PowMod(%d, %v, %d, %v)", m, a, n, f)
				checkList(t, do(PowMod(m, nil, n, f)), api.OK, nil, "PowMod(%d, nothing, %d, %v)", m, n, f)
			}
		}
	}
	// The remainder by x - 3 is the value at 3, and 3 has the order 16 modulo 17.
	for n, want := range map[uint64]uint32{0: 1, 1: 3, 16: 1, 1 << 40: 1, 1<<40 + 1: 3, math.MaxUint64: 6} {
		checkList(t, do(PowMod(17, some{0, 1}, n, some{14, 1})), api.OK, some{want}, "PowMod(17, x, %d, x - 3)", n)
	}
}

// P5.5: what no polynomial can be divided by, also for the exponent 0.
func TestPowModRefuses(t *testing.T) {
	for _, c := range []struct {
		m uint32
		f []uint32
	}{{17, nil}, {2, some{}}, {6, some{1, 2}}, {6, some{3}}, {6, some{1, 1, 4}}, {1 << 30, some{1, 1 << 29}}, {46337 * 46337, some{1, 46337}}} {
		for _, a := range [][]uint32{nil, {1}, {1, 1}} {
			for _, n := range []uint64{0, 1, 2, math.MaxUint64} {
				got, e := PowMod(c.m, a, n, c.f)
				checkError(t, got, e, api.ErrRange, "PowMod(%d, %v, %d, %v)", c.m, a, n, c.f)
			}
		}
	}
}
