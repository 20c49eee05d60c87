package wide

import (
	"math"
	"math/big"
	"math/rand"
	"strings"
	"testing"

	"obscura/api"
)

// P2.1: the definition and the examples; a form may have 256 bytes, but no more.
func TestValid(t *testing.T) {
	for _, c := range []struct {
		x    api.Wide
		want bool
	}{
		{api.Wide{}, true},
		{api.Wide{Mag: "\x01\x00"}, true},
		{api.Wide{Neg: true}, false},
		{api.Wide{Mag: "\x00\x01"}, false},
		{api.Wide{Mag: "\x00"}, false},
		{api.Wide{Neg: true, Mag: "\x00"}, false},
		{api.Wide{Mag: "\x01"}, true},
		{api.Wide{Neg: true, Mag: "\xff"}, true},
		{api.Wide{Mag: "0"}, true},
		{api.Wide{Mag: strings.Repeat("\xff", 256)}, true},
		{api.Wide{Neg: true, Mag: strings.Repeat("\xff", 256)}, true},
		{api.Wide{Mag: "\x01" + strings.Repeat("\x00", 255)}, true},
		{api.Wide{Mag: "\x01" + strings.Repeat("\x00", 256)}, false},
		{api.Wide{Mag: "\x00" + strings.Repeat("\xff", 256)}, false},
	} {
		if Valid(c.x) != c.want {
			t.Errorf("Valid of %v, %d bytes from %.2x on is not %v", c.x.Neg, len(c.x.Mag), c.x.Mag, c.want)
		}
	}
	for _, x := range badForms() {
		if Valid(x) {
			t.Errorf("Valid of %v, %d bytes from %.2x on", x.Neg, len(x.Mag), x.Mag)
		}
	}
	for _, v := range edges() {
		if !Valid(wideOf(v)) {
			t.Errorf("Valid(%d) is false", v)
		}
	}
}

// someInts are numbers of 64 bits, the extreme ones among them.
func someInts(r *rand.Rand) []int64 {
	list := []int64{0, 1, -1, 127, 128, 255, 256, -255, -256, -257, 65535, 65536, math.MaxInt32, math.MinInt32, 1<<32 - 1, 1 << 32, -1 << 32, math.MaxInt64, math.MinInt64, math.MinInt64 + 1}
	for k := range 64 {
		list = append(list, int64(r.Uint64())>>k)
	}
	return list
}

// P2.1: Of gives the form, and Int leads back.
func TestOfAndInt(t *testing.T) {
	if x := Of(-256); x != (api.Wide{Neg: true, Mag: "\x01\x00"}) {
		t.Errorf("Of(-256): %v", x)
	}
	for _, n := range someInts(rand.New(rand.NewSource(1))) {
		x := Of(n)
		check(t, x, api.OK, big.NewInt(n), "Of(%d)", n)
		if back, e := Int(x); back != n || e != api.OK {
			t.Errorf("Int(Of(%d)): %d, error %d", n, back, e)
		}
	}
}

// P2.1: Int refuses what is beyond 64 bits, just at the ends and far from them.
func TestIntRange(t *testing.T) {
	for _, v := range samples(rand.New(rand.NewSource(2))) {
		n, e := Int(wideOf(v))
		if v.IsInt64() {
			if n != v.Int64() || e != api.OK {
				t.Errorf("Int(%d): %d, error %d", v, n, e)
			}
		} else if n != 0 || e != api.ErrRange {
			t.Errorf("Int(%d): %d, error %d; want ErrRange", v, n, e)
		}
	}
	for _, c := range []struct {
		v    *big.Int
		want int64
		e    api.Errno
	}{
		{pow2(63, 0), 0, api.ErrRange},
		{pow2(63, -1), math.MaxInt64, api.OK},
		{new(big.Int).Neg(pow2(63, 0)), math.MinInt64, api.OK},
		{new(big.Int).Neg(pow2(63, 1)), 0, api.ErrRange},
		{pow2(64, 0), 0, api.ErrRange},
		{pow2(64, 1), 0, api.ErrRange},
	} {
		if n, e := Int(wideOf(c.v)); n != c.want || e != c.e {
			t.Errorf("Int(%d): %d, error %d; want %d, %d", c.v, n, e, c.want, c.e)
		}
	}
}

// P2.3: the binary digits of the absolute value.
func TestBits(t *testing.T) {
	for n, want := range map[int64]int{255: 8, -256: 9, 0: 0, 1: 1, -1: 1, 128: 8, math.MinInt64: 64} {
		if k, e := Bits(Of(n)); k != want || e != api.OK {
			t.Errorf("Bits(%d): %d, error %d; want %d", n, k, e, want)
		}
	}
	for _, v := range samples(rand.New(rand.NewSource(3))) {
		if k, e := Bits(wideOf(v)); k != v.BitLen() || e != api.OK {
			t.Errorf("Bits(%d): %d, error %d", v, k, e)
		}
	}
}

// P2.3: signs are turned and left out; zero has none.
func TestNegAndAbs(t *testing.T) {
	for _, v := range samples(rand.New(rand.NewSource(4))) {
		x, e := Neg(wideOf(v))
		check(t, x, e, new(big.Int).Neg(v), "Neg(%d)", v)
		x, e = Abs(wideOf(v))
		check(t, x, e, new(big.Int).Abs(v), "Abs(%d)", v)
	}
}

// P2.3: all pairs of samples, among them neighbours and opposites, are compared.
func TestCmpAndMax(t *testing.T) {
	list := samples(rand.New(rand.NewSource(5)))
	for _, v := range list {
		for _, w := range list {
			if c, e := Cmp(wideOf(v), wideOf(w)); c != v.Cmp(w) || e != api.OK {
				t.Fatalf("Cmp(%d, %d): %d, error %d", v, w, c, e)
			}
			want := v
			if w.Cmp(v) > 0 {
				want = w
			}
			x, e := Max(wideOf(v), wideOf(w))
			check(t, x, e, want, "Max(%d, %d)", v, w)
		}
	}
}

// P2.4: sums, differences and products are exact, or out of range.
func TestSumsAndProducts(t *testing.T) {
	r := rand.New(rand.NewSource(6))
	list := samples(r)
	for range 60 {
		list = append(list, patterned(r, 1+r.Intn(64)))
	}
	for _, v := range list {
		for _, w := range list {
			a, b := wideOf(v), wideOf(w)
			x, e := Add(a, b)
			check(t, x, e, new(big.Int).Add(v, w), "Add(%d, %d)", v, w)
			x, e = Sub(a, b)
			check(t, x, e, new(big.Int).Sub(v, w), "Sub(%d, %d)", v, w)
			x, e = Mul(a, b)
			check(t, x, e, new(big.Int).Mul(v, w), "Mul(%d, %d)", v, w)
		}
	}
}

// P2.4: all small numbers, which have all signs and zeros as results.
func TestSmallSumsAndProducts(t *testing.T) {
	for a := int64(-20); a <= 20; a++ {
		for b := int64(-20); b <= 20; b++ {
			x, e := Add(Of(a), Of(b))
			check(t, x, e, big.NewInt(a+b), "Add(%d, %d)", a, b)
			x, e = Sub(Of(a), Of(b))
			check(t, x, e, big.NewInt(a-b), "Sub(%d, %d)", a, b)
			x, e = Mul(Of(a), Of(b))
			check(t, x, e, big.NewInt(a*b), "Mul(%d, %d)", a, b)
		}
	}
}

// P2.4: the ends of the range, to a bit.
func TestEndsOfTheRange(t *testing.T) {
	top, one := wideOf(pow2(2048, -1)), Of(1)
	bottom, _ := Neg(top)
	half, below := wideOf(pow2(1024, 0)), wideOf(pow2(1024, -1))
	for _, c := range []struct {
		name string
		f    func(a, b api.Wide) (api.Wide, api.Errno)
		a, b api.Wide
		want *big.Int
	}{
		{"Add", Add, top, one, pow2(2048, 0)},
		{"Add", Add, top, top, pow2(2049, -2)},
		{"Add", Add, bottom, Of(-1), new(big.Int).Neg(pow2(2048, 0))},
		{"Add", Add, top, bottom, new(big.Int)},
		{"Add", Add, bottom, one, new(big.Int).Neg(pow2(2048, -2))},
		{"Sub", Sub, bottom, one, new(big.Int).Neg(pow2(2048, 0))},
		{"Sub", Sub, top, Of(-1), pow2(2048, 0)},
		{"Sub", Sub, top, top, new(big.Int)},
		{"Sub", Sub, api.Wide{}, top, exact(bottom)},
		{"Mul", Mul, half, half, pow2(2048, 0)},
		{"Mul", Mul, half, below, new(big.Int).Mul(pow2(1024, 0), pow2(1024, -1))},
		{"Mul", Mul, top, Of(-1), exact(bottom)},
		{"Mul", Mul, bottom, bottom, new(big.Int).Mul(pow2(2048, -1), pow2(2048, -1))},
		{"Mul", Mul, top, Of(2), pow2(2049, -2)},
		{"Mul", Mul, bottom, api.Wide{}, new(big.Int)},
	} {
		x, e := c.f(c.a, c.b)
		check(t, x, e, c.want, c.name+"(%d, %d)", exact(c.a), exact(c.b))
	}
}
