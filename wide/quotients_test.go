package wide

import (
	"math"
	"math/big"
	"math/rand"
	"testing"

	"obscura/api"
)

// checkDiv compares a division with the exact one: big's Euclidean division has the same rest.
func checkDiv(t *testing.T, v, w *big.Int) {
	t.Helper()
	q, r, e := Div(wideOf(v), wideOf(w))
	if w.Sign() == 0 {
		checkArg(t, q, e, "Div(%d, 0)", v)
		checkArg(t, r, e, "Div(%d, 0)", v)
		return
	}
	wantQ, wantR := new(big.Int).DivMod(v, w, new(big.Int))
	check(t, q, e, wantQ, "quotient of Div(%d, %d)", v, w)
	check(t, r, e, wantR, "rest of Div(%d, %d)", v, w)
}

// P2.5: quotients and rests of all pairs of samples.
func TestDiv(t *testing.T) {
	list := samples(rand.New(rand.NewSource(21)))
	for _, v := range list {
		for _, w := range list {
			checkDiv(t, v, w)
		}
	}
}

// P2.5: numbers whose digits are extreme, so that guesses of digits are too great by 1 and by 2; also multiples and their neighbours.
func TestDivPatterned(t *testing.T) {
	r := rand.New(rand.NewSource(22))
	for range 30000 {
		words := 1 + r.Intn(20)
		w := patterned(r, words)
		checkDiv(t, patterned(r, r.Intn(44)), w)
		multiple := new(big.Int).Mul(w, patterned(r, 1+r.Intn(20)))
		checkDiv(t, multiple.Add(multiple, big.NewInt(int64(r.Intn(3)-1))), w)
	}
}

// P2.5: all small numbers and the examples.
func TestDivSmall(t *testing.T) {
	for a := int64(-30); a <= 30; a++ {
		for b := int64(-10); b <= 10; b++ {
			checkDiv(t, big.NewInt(a), big.NewInt(b))
		}
	}
	for _, c := range [][4]int64{{7, 2, 3, 1}, {-7, 2, -4, 1}, {7, -2, -3, 1}, {-7, -2, 4, 1}} {
		q, r, e := Div(Of(c[0]), Of(c[1]))
		if q != Of(c[2]) || r != Of(c[3]) || e != api.OK {
			t.Errorf("Div(%d, %d): %d, %d, error %d", c[0], c[1], exact(q), exact(r), e)
		}
	}
}

// rounded returns the greatest integer that is at most (2 v + w) / 2 w: that nearest to v / w, the greater one of two.
func rounded(v, w *big.Int) *big.Int {
	above := new(big.Int).Add(new(big.Int).Lsh(v, 1), w)
	return above.Div(above, new(big.Int).Lsh(w, 1))
}

// balancedOf returns the rest in the balanced interval.
func balancedOf(v, w *big.Int) *big.Int {
	r := new(big.Int).Mod(v, w)
	if new(big.Int).Lsh(r, 1).Cmp(w) > 0 {
		r.Sub(r, w)
	}
	return r
}

// checkRounded compares Round and Balanced with the exact results.
func checkRounded(t *testing.T, v, w *big.Int) {
	t.Helper()
	x, e := Round(wideOf(v), wideOf(w))
	y, f := Balanced(wideOf(v), wideOf(w))
	if w.Sign() <= 0 {
		checkArg(t, x, e, "Round(%d, %d)", v, w)
		checkArg(t, y, f, "Balanced(%d, %d)", v, w)
		return
	}
	check(t, x, e, rounded(v, w), "Round(%d, %d)", v, w)
	check(t, y, f, balancedOf(v, w), "Balanced(%d, %d)", v, w)
}

// P2.5 and P2.6: all pairs of samples, and just above and below halves.
func TestRoundAndBalanced(t *testing.T) {
	r := rand.New(rand.NewSource(23))
	list := samples(r)
	for _, v := range list {
		for _, w := range list {
			checkRounded(t, v, w)
		}
	}
	for range 3000 {
		w := patterned(r, 1+r.Intn(30))
		half := new(big.Int).Mul(w, patterned(r, 1+r.Intn(30)))
		half.Add(half, new(big.Int).Rsh(w, 1))
		for d := int64(-2); d <= 2; d++ {
			checkRounded(t, new(big.Int).Add(half, big.NewInt(d)), w)
		}
	}
}

// P2.5 and P2.6: all small numbers and the examples.
func TestRoundAndBalancedSmall(t *testing.T) {
	for a := int64(-30); a <= 30; a++ {
		for b := int64(-3); b <= 12; b++ {
			checkRounded(t, big.NewInt(a), big.NewInt(b))
		}
	}
	for _, c := range []struct {
		name string
		f    func(a, b api.Wide) (api.Wide, api.Errno)
		a, b int64
		want int64
	}{
		{"Round", Round, 7, 2, 4},
		{"Round", Round, -7, 2, -3},
		{"Round", Round, 5, 3, 2},
		{"Balanced", Balanced, 7, 4, -1},
		{"Balanced", Balanced, 6, 4, 2},
		{"Balanced", Balanced, -6, 4, 2},
	} {
		x, e := c.f(Of(c.a), Of(c.b))
		check(t, x, e, big.NewInt(c.want), c.name+"(%d, %d)", c.a, c.b)
	}
	x, e := Round(Of(1), Of(-1))
	checkArg(t, x, e, "Round(1, -1)")
}

// P2.6: residues modulo every kind of number of 32 bits.
func TestMod(t *testing.T) {
	list := samples(rand.New(rand.NewSource(24)))
	for _, n := range []uint32{1, 2, 3, 4, 7, 255, 256, 257, 65537, 1_000_000_000, api.MaxMod - 1, api.MaxMod, 1 << 31, math.MaxUint32 - 1, math.MaxUint32} {
		for _, v := range list {
			want := uint32(new(big.Int).Mod(v, big.NewInt(int64(n))).Uint64())
			if got, e := Mod(wideOf(v), n); got != want || e != api.OK {
				t.Errorf("Mod(%d, %d): %d, error %d; want %d", v, n, got, e, want)
			}
		}
	}
	if got, e := Mod(Of(-7), 4); got != 1 || e != api.OK {
		t.Errorf("Mod(-7, 4): %d, error %d", got, e)
	}
	for _, v := range list {
		if got, e := Mod(wideOf(v), 0); got != 0 || e != api.ErrArg {
			t.Errorf("Mod(%d, 0): %d, error %d; want ErrArg", v, got, e)
		}
	}
}
