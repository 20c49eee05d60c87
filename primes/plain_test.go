package primes

import (
	"math"
	"math/big"
	"testing"

	"obscura/api"
)

func checkPlain(t *testing.T, n int, p uint32, r int, want uint32, e api.Errno) {
	t.Helper()
	if got, ge := Plain(n, p, r); got != want || ge != e {
		t.Errorf("Plain(%d, %d, %d): %d, error %d; want %d, %d", n, p, r, got, ge, want, e)
	}
}

// P3.4: all small primes and what is none, all exponents up to those that are too great.
func TestPlainSmall(t *testing.T) {
	for n := -1; n <= 70; n++ {
		dimension := n == 4 || n == 8 || n == 16 || n == 32
		for p := range uint32(600) {
			valid := dimension && p > 2 && hasStep(uint64(p), 2*uint64(max(n, 1)))
			for r := -1; r <= 12; r++ {
				if !valid || r < 1 {
					checkPlain(t, n, p, r, 0, api.ErrArg)
					continue
				}
				v := new(big.Int).Exp(big.NewInt(int64(p)), big.NewInt(int64(r)), nil)
				if v.Cmp(big.NewInt(top)) > 0 {
					checkPlain(t, n, p, r, 0, api.ErrRange)
				} else {
					checkPlain(t, n, p, r, uint32(v.Uint64()), api.OK)
				}
			}
		}
	}
}

// P3.4: the examples of the chapter, and powers around MaxMod.
func TestPlainEdges(t *testing.T) {
	checkPlain(t, 8, 17, 3, 4913, api.OK)
	checkPlain(t, 8, 17, 8, 0, api.ErrRange)
	checkPlain(t, 16, 17, 1, 0, api.ErrArg)
	checkPlain(t, 4, 41, 1, 41, api.OK)
	checkPlain(t, 8, 17, 7, 410338673, api.OK)
	checkPlain(t, 32, 193, 1, 193, api.OK)
	checkPlain(t, 32, 46337, 2, 2147117569, api.OK) // the next square of a prime is above MaxMod
	checkPlain(t, 4, 46441, 1, 46441, api.OK)
	checkPlain(t, 4, 46441, 2, 0, api.ErrRange)
	checkPlain(t, 16, 65537, 2, 0, api.ErrRange) // 1 modulo 2^17, so it may not wrap around
	for _, r := range []int{8, 16, 31, 32, 63, 64, 128, math.MaxInt} {
		checkPlain(t, 8, 17, r, 0, api.ErrRange)
		checkPlain(t, 8, 65537, r, 0, api.ErrRange)
	}
	p, _ := Below(top+1, 64)
	checkPlain(t, 32, p, 1, p, api.OK)
	checkPlain(t, 32, p, 2, 0, api.ErrRange)
}

// P3.4: a prime above MaxMod is a prime still, so that its power is ErrRange; other great numbers are ErrArg.
func TestPlainGreat(t *testing.T) {
	primes, others := 0, 0
	for i := range uint64(100000) {
		// 21467 has no common divisor with 32, so that each residue is met; the numbers end below 2^32.
		c := top + 2 + 21467*i
		want := api.ErrArg
		if hasStep(c, 32) {
			want = api.ErrRange
			primes++
		} else {
			others++
		}
		checkPlain(t, 16, uint32(c), 1, 0, want)
		checkPlain(t, 16, uint32(c), math.MaxInt, 0, want)
		checkPlain(t, 16, uint32(c), 0, 0, api.ErrArg)
	}
	if primes == 0 || others == 0 {
		t.Errorf("the test meets %d primes and %d others", primes, others)
	}
}

// P3.4: invalid arguments, also where the power would be too great.
func TestPlainRefuses(t *testing.T) {
	for _, r := range []int{0, -1, math.MinInt} {
		checkPlain(t, 8, 17, r, 0, api.ErrArg)
	}
	for _, n := range []int{0, 1, 2, 3, 64, -8, math.MinInt, math.MaxInt, 1 << 32, 1<<32 + 8} {
		for _, r := range []int{1, 8, math.MaxInt} {
			checkPlain(t, n, 193, r, 0, api.ErrArg)
		}
	}
	for _, p := range []uint32{0, 1, 2, 4, 9, 33, 289, 19, top, top + 1, 2147483659, math.MaxUint32} {
		for _, r := range []int{1, 8, 40, math.MaxInt} {
			checkPlain(t, 8, p, r, 0, api.ErrArg)
		}
	}
}
