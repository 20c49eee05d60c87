package wide

import (
	"math/big"
	"math/rand"
	"testing"

	"obscura/api"
)

// must returns a result that has no error.
func must(t *testing.T) func(x api.Wide, e api.Errno) api.Wide {
	return func(x api.Wide, e api.Errno) api.Wide {
		t.Helper()
		if e != api.OK || !Valid(x) {
			t.Fatalf("%v, error %d", x, e)
		}
		return x
	}
}

// P2.8: forms are equal just if the integers are, and texts lead back.
func TestFormsAreUnique(t *testing.T) {
	ok := must(t)
	list := samples(rand.New(rand.NewSource(41)))
	for _, v := range list {
		x := wideOf(v)
		text, e := Text(x)
		if back := ok(Read(text)); e != api.OK || back != x {
			t.Errorf("Read(Text(%d)): %d", v, exact(back))
		}
		if text, e := Text(ok(Read(v.String()))); text != v.String() || e != api.OK {
			t.Errorf("Text(Read(%d)): %s, error %d", v, text, e)
		}
		for _, w := range list {
			// The same integer is reached in different ways.
			other := ok(Sub(ok(Add(wideOf(quarter(v)), wideOf(quarter(w)))), wideOf(quarter(w))))
			if same := other == wideOf(quarter(v)); !same {
				t.Errorf("%d has two forms", quarter(v))
			}
			c, e := Cmp(x, wideOf(w))
			if (x == wideOf(w)) != (c == 0) || e != api.OK {
				t.Errorf("forms of %d and %d: Cmp %d, error %d", v, w, c, e)
			}
		}
	}
}

// quarter returns an integer of at most a quarter of the bits.
func quarter(v *big.Int) *big.Int { return new(big.Int).Rem(v, pow2(500, 0)) }

// triples are integers whose products of three are in range.
func triples() [][3]api.Wide {
	r := rand.New(rand.NewSource(42))
	var list [][3]api.Wide
	for range 3000 {
		list = append(list, [3]api.Wide{wideOf(patterned(r, r.Intn(21))), wideOf(patterned(r, r.Intn(21))), wideOf(patterned(r, r.Intn(21)))})
	}
	return list
}

// P2.9: sums and products are commutative, associative and distributive.
func TestLawsOfSumsAndProducts(t *testing.T) {
	ok := must(t)
	for _, c := range triples() {
		x, y, z := c[0], c[1], c[2]
		for what, same := range map[string]bool{
			"x + y is y + x":             ok(Add(x, y)) == ok(Add(y, x)),
			"x y is y x":                 ok(Mul(x, y)) == ok(Mul(y, x)),
			"(x + y) + z is x + (y + z)": ok(Add(ok(Add(x, y)), z)) == ok(Add(x, ok(Add(y, z)))),
			"(x y) z is x (y z)":         ok(Mul(ok(Mul(x, y)), z)) == ok(Mul(x, ok(Mul(y, z)))),
			"x (y + z) is x y + x z":     ok(Mul(x, ok(Add(y, z)))) == ok(Add(ok(Mul(x, y)), ok(Mul(x, z)))),
			"(x + y) - y is x":           ok(Sub(ok(Add(x, y)), y)) == x,
		} {
			if !same {
				t.Errorf("%s is wrong for %d, %d, %d", what, exact(x), exact(y), exact(z))
			}
		}
	}
}

// P2.9: a product with a rest is divided to its parts.
func TestDivLeadsBack(t *testing.T) {
	ok := must(t)
	for _, c := range triples() {
		a, b := c[0], ok(Abs(c[1]))
		if b == Of(0) {
			continue
		}
		for _, r := range []*big.Int{new(big.Int), new(big.Int).Sub(exact(b), big.NewInt(1)), new(big.Int).Mod(exact(c[2]), exact(b))} {
			q, rest, e := Div(ok(Add(ok(Mul(a, b)), wideOf(r))), b)
			if q != a || rest != wideOf(r) || e != api.OK {
				t.Errorf("Div(%d b + %d, b) for b = %d: %d, %d, error %d", exact(a), r, exact(b), exact(q), exact(rest), e)
			}
		}
	}
}

// P2.10: shifts and squares lead back, and Mod and Balanced agree.
func TestShiftsSquaresAndResidues(t *testing.T) {
	ok := must(t)
	r := rand.New(rand.NewSource(43))
	for _, c := range triples() {
		a := c[0]
		for _, k := range []int{0, 1, 31, 32, 33, r.Intn(1400), 2048 - exact(a).BitLen()} {
			if back := ok(Shr(ok(Shl(a, k)), k)); back != a {
				t.Errorf("Shr(Shl(%d, %d), %d): %d", exact(a), k, k, exact(back))
			}
		}
		if root := ok(Sqrt(ok(Mul(a, a)))); root != ok(Abs(a)) {
			t.Errorf("Sqrt of the square of %d: %d", exact(a), exact(root))
		}
		n := r.Uint32()>>r.Intn(32) | 1
		v, e := Int(ok(Balanced(a, Of(int64(n)))))
		if v < 0 {
			v += int64(n)
		}
		if m, f := Mod(a, n); int64(m) != v || e != api.OK || f != api.OK {
			t.Errorf("Mod(%d, %d): %d; Balanced: %d; errors %d, %d", exact(a), n, m, v, e, f)
		}
	}
}
