package wide

import (
	"math/big"
	"math/rand"
	"strings"
	"testing"

	"obscura/api"
)

// pow2 returns 2^k + d.
func pow2(k uint, d int64) *big.Int {
	v := new(big.Int).Lsh(big.NewInt(1), k)
	return v.Add(v, big.NewInt(d))
}

// exact returns the integer that a valid form stands for.
func exact(x api.Wide) *big.Int {
	v := new(big.Int).SetBytes([]byte(x.Mag))
	if x.Neg {
		v.Neg(v)
	}
	return v
}

// wideOf returns the form of an integer in range.
func wideOf(v *big.Int) api.Wide {
	return api.Wide{Neg: v.Sign() < 0, Mag: string(v.Bytes())}
}

// inRange reports whether an integer has a form.
func inRange(v *big.Int) bool { return v.BitLen() <= 2048 }

// check tests that a result is the form of an integer, or ErrRange if it has none.
func check(t *testing.T, got api.Wide, e api.Errno, want *big.Int, what string, args ...any) {
	t.Helper()
	if !inRange(want) {
		if got != (api.Wide{}) || e != api.ErrRange {
			t.Fatalf(what+": %d, error %d; want ErrRange", append(args, exact(got), e)...)
		}
		return
	}
	if got != wideOf(want) || e != api.OK {
		t.Fatalf(what+": %d, error %d; want %d", append(args, exact(got), e, want)...)
	}
}

// checkArg tests that a result is ErrArg.
func checkArg(t *testing.T, got api.Wide, e api.Errno, what string, args ...any) {
	t.Helper()
	if got != (api.Wide{}) || e != api.ErrArg {
		t.Fatalf(what+": %d, error %d; want ErrArg", append(args, exact(got), e)...)
	}
}

// edges are integers around powers of two, up to the ends of the range.
func edges() []*big.Int {
	list := []*big.Int{big.NewInt(0), pow2(2048, -1)}
	for _, k := range []uint{0, 1, 7, 8, 15, 16, 31, 32, 33, 63, 64, 65, 95, 96, 1023, 1024, 1025, 2015, 2016, 2047} {
		list = append(list, pow2(k, -1), pow2(k, 0))
		if k < 2047 {
			list = append(list, pow2(k, 1))
		}
	}
	for _, v := range list[1:] {
		list = append(list, new(big.Int).Neg(v))
	}
	return list
}

// patterned returns an integer of some words of 32 bits, many of which are extreme, so that carries and wrong guesses are not rare.
func patterned(r *rand.Rand, words int) *big.Int {
	extremes := []uint32{0, 0, 1, 2, 1<<31 - 1, 1 << 31, 1<<31 + 1, 1<<32 - 2, 1<<32 - 1, 1<<32 - 1}
	v := new(big.Int)
	for range words {
		word := r.Uint32()
		if r.Intn(3) > 0 {
			word = extremes[r.Intn(len(extremes))]
		}
		v.Lsh(v, 32).Or(v, new(big.Int).SetUint64(uint64(word)))
	}
	if r.Intn(2) == 0 {
		v.Neg(v)
	}
	return v
}

// samples are the edges and some patterned integers of all lengths.
func samples(r *rand.Rand) []*big.Int {
	list := edges()
	for words := 1; words <= 64; words += 3 {
		list = append(list, patterned(r, words))
	}
	return list
}

// badForms are values that are not valid.
func badForms() []api.Wide {
	return []api.Wide{
		{Neg: true},
		{Mag: "\x00"},
		{Neg: true, Mag: "\x00"},
		{Mag: "\x00\x01"},
		{Neg: true, Mag: "\x00\x01"},
		{Mag: "\x01" + strings.Repeat("\x00", 256)},
		{Neg: true, Mag: strings.Repeat("\xff", 257)},
		{Mag: strings.Repeat("\x00", 256)},
		{Mag: strings.Repeat("x", 100000)},
	}
}
