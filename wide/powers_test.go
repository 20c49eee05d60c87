package wide

import (
	"math"
	"math/big"
	"math/rand"
	"testing"

	"obscura/api"
)

// badShifts are no shifts and no exponents.
var badShifts = []int{-1, -32, math.MinInt, api.MaxShift + 1, math.MaxInt}

// P2.7: both shifts of all samples; to the right they round down.
func TestShifts(t *testing.T) {
	list := samples(rand.New(rand.NewSource(31)))
	shifts := []int{0, 1, 2, 5, 7, 8, 31, 32, 33, 63, 64, 65, 1000, 1023, 1024, 2047, 2048, 2049, 4095, 4096}
	for _, v := range list {
		for _, k := range shifts {
			x, e := Shl(wideOf(v), k)
			check(t, x, e, new(big.Int).Lsh(v, uint(k)), "Shl(%d, %d)", v, k)
			x, e = Shr(wideOf(v), k)
			check(t, x, e, new(big.Int).Rsh(v, uint(k)), "Shr(%d, %d)", v, k)
		}
	}
}

// P2.7: the examples, and small numbers by every shift.
func TestShiftsSmall(t *testing.T) {
	for _, c := range []struct {
		name string
		f    func(a api.Wide, k int) (api.Wide, api.Errno)
		a    int64
		k    int
		want *big.Int
	}{
		{"Shr", Shr, -1, 5, big.NewInt(-1)},
		{"Shr", Shr, 7, 1, big.NewInt(3)},
		{"Shr", Shr, -1, 4096, big.NewInt(-1)},
		{"Shl", Shl, -3, 2, big.NewInt(-12)},
		{"Shl", Shl, 1, 2048, pow2(2048, 0)},
		{"Shl", Shl, 1, 2047, pow2(2047, 0)},
		{"Shl", Shl, 0, 4096, new(big.Int)},
		{"Pow", Pow, 2, 2047, pow2(2047, 0)},
	} {
		x, e := c.f(Of(c.a), c.k)
		check(t, x, e, c.want, c.name+"(%d, %d)", c.a, c.k)
	}
	for a := int64(-40); a <= 40; a++ {
		for k := range api.MaxShift + 1 {
			x, e := Shr(Of(a), k)
			check(t, x, e, new(big.Int).Rsh(big.NewInt(a), uint(k)), "Shr(%d, %d)", a, k)
			x, e = Shl(Of(a), k)
			check(t, x, e, new(big.Int).Lsh(big.NewInt(a), uint(k)), "Shl(%d, %d)", a, k)
		}
	}
}

// P2.7: powers of small numbers, up to where they leave the range, and the greatest exponents.
func TestPowSmall(t *testing.T) {
	for a := int64(-20); a <= 20; a++ {
		want := big.NewInt(1)
		for k := range api.MaxShift + 1 {
			x, e := Pow(Of(a), k)
			check(t, x, e, want, "Pow(%d, %d)", a, k)
			if !inRange(want) {
				break
			}
			want = new(big.Int).Mul(want, big.NewInt(a))
		}
		for k := api.MaxShift - 40; k <= api.MaxShift; k++ {
			x, e := Pow(Of(a), k)
			check(t, x, e, new(big.Int).Exp(big.NewInt(a), big.NewInt(int64(k)), nil), "Pow(%d, %d)", a, k)
		}
	}
}

// P2.7: powers of all samples, among them roots of the greatest integers.
func TestPow(t *testing.T) {
	list := samples(rand.New(rand.NewSource(32)))
	for _, k := range []int{0, 1, 2, 3, 4, 5, 6, 7, 8, 15, 16, 31, 32, 33, 64, 100, 4095, 4096} {
		for _, v := range list {
			want := pow2(3000, 0)
			if v.BitLen() < 2 || (v.BitLen()-1)*k <= 2048 {
				want = new(big.Int).Exp(v, big.NewInt(int64(k)), nil)
			}
			x, e := Pow(wideOf(v), k)
			check(t, x, e, want, "Pow(%d, %d)", v, k)
		}
	}
}

// P2.7: what is no shift and no exponent is refused, even for 0 and where the result would be out of range.
func TestBadShifts(t *testing.T) {
	for _, v := range edges() {
		for _, k := range badShifts {
			x, e := Shl(wideOf(v), k)
			checkArg(t, x, e, "Shl(%d, %d)", v, k)
			x, e = Shr(wideOf(v), k)
			checkArg(t, x, e, "Shr(%d, %d)", v, k)
			x, e = Pow(wideOf(v), k)
			checkArg(t, x, e, "Pow(%d, %d)", v, k)
		}
	}
}

// checkSqrt compares a root with the exact one.
func checkSqrt(t *testing.T, v *big.Int) {
	t.Helper()
	x, e := Sqrt(wideOf(v))
	if v.Sign() < 0 {
		checkArg(t, x, e, "Sqrt(%d)", v)
		return
	}
	check(t, x, e, new(big.Int).Sqrt(v), "Sqrt(%d)", v)
}

// P2.7: roots of samples and of small numbers, of squares and their neighbours.
func TestSqrt(t *testing.T) {
	r := rand.New(rand.NewSource(33))
	for _, v := range samples(r) {
		checkSqrt(t, v)
	}
	for a := int64(-5); a <= 3000; a++ {
		checkSqrt(t, big.NewInt(a))
	}
	for range 1000 {
		v := patterned(r, 1+r.Intn(32))
		v.Mul(v, v)
		for d := int64(-1); d <= 1; d++ {
			checkSqrt(t, new(big.Int).Add(v, big.NewInt(d)))
		}
	}
	for a, want := range map[int64]int64{0: 0, 1: 1, 99: 9, 100: 10} {
		if x, e := Sqrt(Of(a)); x != Of(want) || e != api.OK {
			t.Errorf("Sqrt(%d): %d, error %d", a, exact(x), e)
		}
	}
	x, e := Sqrt(Of(-1))
	checkArg(t, x, e, "Sqrt(-1)")
}
