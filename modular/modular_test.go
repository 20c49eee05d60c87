package modular

import (
	"math"
	"math/big"
	"math/rand"
	"testing"

	"obscura/api"
)

const top = api.MaxMod

// badModuli are numbers that are no modulus.
var badModuli = []uint32{0, 1, top + 1, top + 2, math.MaxUint32}

// someModuli are small ones, all of them, and some around the limit and between.
func someModuli() []uint32 {
	var l []uint32
	for n := uint32(2); n <= 40; n++ {
		l = append(l, n)
	}
	return append(l, 65535, 65536, 65537, 1<<30, 1<<30+3, 1500000001, top-2, top-1, top)
}

// someResidues are all residues of a small modulus, and some of a great one.
func someResidues(n uint32, r *rand.Rand) []uint32 {
	var l []uint32
	if n <= 40 {
		for a := range n {
			l = append(l, a)
		}
		return l
	}
	l = []uint32{0, 1, 2, n/2 - 1, n / 2, n/2 + 1, n - 2, n - 1}
	for range 20 {
		l = append(l, uint32(r.Int63n(int64(n))))
	}
	return l
}

func wide(v uint32) *big.Int { return new(big.Int).SetUint64(uint64(v)) }

func remainder(v *big.Int, n uint32) uint32 {
	return uint32(new(big.Int).Mod(v, wide(n)).Uint64())
}

func checkResidue(t *testing.T, what string, got uint32, e api.Errno, want uint32) {
	t.Helper()
	if got != want || e != api.OK {
		t.Errorf("%s: %d, error %d; want %d", what, got, e, want)
	}
}

type binary struct {
	name  string
	f     func(a, b, n uint32) (uint32, api.Errno)
	exact func(z, a, b *big.Int) *big.Int
}

func binaries() []binary {
	return []binary{
		{"Add", Add, (*big.Int).Add},
		{"Sub", Sub, (*big.Int).Sub},
		{"Mul", Mul, (*big.Int).Mul},
	}
}

// P1.1: sums, differences and products are exact, up to the greatest modulus.
func TestSumsAndProducts(t *testing.T) {
	r := rand.New(rand.NewSource(1))
	for _, op := range binaries() {
		for _, n := range someModuli() {
			for _, a := range someResidues(n, r) {
				for _, b := range someResidues(n, r) {
					want := remainder(op.exact(new(big.Int), wide(a), wide(b)), n)
					if got, e := op.f(a, b, n); got != want || e != api.OK {
						t.Fatalf("%s(%d, %d, %d): %d, error %d; want %d", op.name, a, b, n, got, e, want)
					}
				}
			}
		}
	}
}

// P1.1: the examples of the chapter.
func TestSumsAndProductsOfTheChapter(t *testing.T) {
	for _, c := range []struct {
		f             func(a, b, n uint32) (uint32, api.Errno)
		a, b, n, want uint32
		e             api.Errno
	}{
		{Add, 5, 4, 7, 2, api.OK},
		{Sub, 1, 4, 7, 4, api.OK},
		{Mul, 2147483646, 2147483646, 2147483647, 1, api.OK},
		{Add, 7, 0, 7, 0, api.ErrArg},
		{Add, 0, 0, 1, 0, api.ErrArg},
	} {
		if got, e := c.f(c.a, c.b, c.n); got != c.want || e != c.e {
			t.Errorf("%d, %d modulo %d: %d, error %d; want %d, %d", c.a, c.b, c.n, got, e, c.want, c.e)
		}
	}
}

// P1.1 and R2: what is no modulus or no residue is refused, with the result 0.
func TestSumsAndProductsRefuse(t *testing.T) {
	for _, op := range binaries() {
		refuse := func(a, b, n uint32) {
			if got, e := op.f(a, b, n); got != 0 || e != api.ErrArg {
				t.Errorf("%s(%d, %d, %d): %d, error %d; want ErrArg", op.name, a, b, n, got, e)
			}
		}
		for _, n := range badModuli {
			refuse(0, 0, n)
			refuse(1, 1, n)
		}
		for _, n := range someModuli() {
			for _, bad := range []uint32{n, n + 1, 2*n + 1, math.MaxUint32} {
				refuse(bad, 1, n)
				refuse(1, bad, n)
				refuse(bad, bad, n)
			}
		}
	}
}

// P1.1: the residue of every integer, negative ones among them.
func TestOf(t *testing.T) {
	r := rand.New(rand.NewSource(2))
	values := []int64{0, 1, -1, 6, 7, 8, -6, -7, -8, top, -top, 1 << 31, 1 << 32, -1 << 32, math.MaxInt64, math.MinInt64, math.MinInt64 + 1}
	for range 100 {
		values = append(values, int64(r.Uint64()))
	}
	for _, n := range someModuli() {
		for _, v := range values {
			got, e := Of(v, n)
			if want := remainder(big.NewInt(v), n); got != want || e != api.OK {
				t.Errorf("Of(%d, %d): %d, error %d; want %d", v, n, got, e, want)
			}
		}
	}
	got, e := Of(-1, 7)
	checkResidue(t, "Of(-1, 7)", got, e, 6)
	for _, n := range badModuli {
		if got, e := Of(5, n); got != 0 || e != api.ErrArg {
			t.Errorf("Of(5, %d): %d, error %d; want ErrArg", n, got, e)
		}
	}
}

// P1.2: powers are exact, for exponents up to 2^64 - 1.
func TestPow(t *testing.T) {
	r := rand.New(rand.NewSource(3))
	exponents := []uint64{0, 1, 2, 3, 31, 32, 1<<32 - 1, 1 << 32, 1<<63 - 1, 1 << 63, math.MaxUint64}
	for range 5 {
		exponents = append(exponents, r.Uint64())
	}
	for _, n := range someModuli() {
		for _, a := range someResidues(n, r) {
			for _, k := range exponents {
				want := uint32(new(big.Int).Exp(wide(a), new(big.Int).SetUint64(k), wide(n)).Uint64())
				if got, e := Pow(a, k, n); got != want || e != api.OK {
					t.Fatalf("Pow(%d, %d, %d): %d, error %d; want %d", a, k, n, got, e, want)
				}
			}
		}
	}
}

// P1.2: the examples, among them 0^0, and what is refused.
func TestPowEdges(t *testing.T) {
	got, e := Pow(3, 6, 7)
	checkResidue(t, "Pow(3, 6, 7)", got, e, 1)
	for _, n := range someModuli() {
		got, e = Pow(0, 0, n)
		checkResidue(t, "Pow(0, 0, n)", got, e, 1)
		got, e = Pow(0, 1, n)
		checkResidue(t, "Pow(0, 1, n)", got, e, 0)
		if got, e := Pow(n, 0, n); got != 0 || e != api.ErrArg {
			t.Errorf("Pow(%d, 0, %d): %d, error %d; want ErrArg", n, n, got, e)
		}
	}
	for _, n := range badModuli {
		if got, e := Pow(0, 1, n); got != 0 || e != api.ErrArg {
			t.Errorf("Pow(0, 1, %d): %d, error %d; want ErrArg", n, got, e)
		}
	}
}

// P1.2 and P1.6: an inverse exists just if there is no common divisor, and the product is 1.
func TestInverse(t *testing.T) {
	r := rand.New(rand.NewSource(4))
	for _, n := range someModuli() {
		for _, a := range someResidues(n, r) {
			b, e := Inverse(a, n)
			if new(big.Int).GCD(nil, nil, wide(a), wide(n)).Cmp(big.NewInt(1)) != 0 {
				if b != 0 || e != api.ErrNone {
					t.Errorf("Inverse(%d, %d): %d, error %d; want ErrNone", a, n, b, e)
				}
				continue
			}
			if e != api.OK || b >= n || uint64(a)*uint64(b)%uint64(n) != 1 {
				t.Errorf("Inverse(%d, %d): %d, error %d", a, n, b, e)
			}
		}
	}
}

// P1.2: the examples, and what is refused.
func TestInverseEdges(t *testing.T) {
	for _, c := range []struct {
		a, n, want uint32
		e          api.Errno
	}{
		{3, 7, 5, api.OK},
		{2, 4, 0, api.ErrNone},
		{0, 7, 0, api.ErrNone},
		{1, 2, 1, api.OK},
		{7, 7, 0, api.ErrArg},
		{8, 7, 0, api.ErrArg},
		{0, 0, 0, api.ErrArg},
		{0, 1, 0, api.ErrArg},
		{1, 1, 0, api.ErrArg},
		{1, top + 1, 0, api.ErrArg},
		{1, math.MaxUint32, 0, api.ErrArg},
	} {
		if got, e := Inverse(c.a, c.n); got != c.want || e != c.e {
			t.Errorf("Inverse(%d, %d): %d, error %d; want %d, %d", c.a, c.n, got, e, c.want, c.e)
		}
	}
}

// P1.6: modulo a prime every residue but 0 has an inverse, the power with the exponent n - 2.
func TestInverseIsAPower(t *testing.T) {
	r := rand.New(rand.NewSource(5))
	for _, n := range []uint32{2, 3, 5, 7, 31, 257, 65537, 1073741827, top} {
		for _, a := range someResidues(n, r) {
			if a == 0 {
				continue
			}
			want, _ := Pow(a, uint64(n)-2, n)
			got, e := Inverse(a, n)
			checkResidue(t, "Inverse and Pow", got, e, want)
		}
	}
}

// P1.3: the definition and the examples; a half of n stays positive.
func TestBalanced(t *testing.T) {
	for _, c := range []struct {
		a, n uint32
		want int64
	}{
		{4, 7, -3}, {3, 7, 3}, {4, 8, 4}, {5, 8, -3},
		{0, 2, 0}, {1, 2, 1}, {1, 3, 1}, {2, 3, -1},
		{top / 2, top, top / 2}, {top/2 + 1, top, -(top / 2)}, {top - 1, top, -1},
		{1 << 29, 1 << 30, 1 << 29}, {1<<29 + 1, 1 << 30, -1<<29 + 1},
	} {
		if got, e := Balanced(c.a, c.n); got != c.want || e != api.OK {
			t.Errorf("Balanced(%d, %d): %d, error %d; want %d", c.a, c.n, got, e, c.want)
		}
	}
	for _, n := range badModuli {
		if got, e := Balanced(0, n); got != 0 || e != api.ErrArg {
			t.Errorf("Balanced(0, %d): %d, error %d; want ErrArg", n, got, e)
		}
	}
	for _, c := range [][2]uint32{{7, 7}, {8, 7}, {2, 2}, {top, top}, {math.MaxUint32, top}} {
		if got, e := Balanced(c[0], c[1]); got != 0 || e != api.ErrArg {
			t.Errorf("Balanced(%d, %d): %d, error %d; want ErrArg", c[0], c[1], got, e)
		}
	}
}

// P1.6: balanced values lie in their interval, and Of leads back.
func TestBalancedAndBack(t *testing.T) {
	r := rand.New(rand.NewSource(6))
	for _, n := range someModuli() {
		for _, a := range someResidues(n, r) {
			v, e := Balanced(a, n)
			if e != api.OK || 2*v > int64(n) || 2*v < -int64(n-1) {
				t.Errorf("Balanced(%d, %d): %d, error %d", a, n, v, e)
			}
			back, e := Of(v, n)
			checkResidue(t, "Of(Balanced(a, n), n)", back, e, a)
		}
	}
}

// P1.7: a power with a sum as its exponent is a product, up to exponents of 2^64 - 1.
func TestPowersOfSums(t *testing.T) {
	r := rand.New(rand.NewSource(7))
	pairs := [][2]uint64{{0, 0}, {0, 5}, {1, 1}, {1 << 63, 1<<63 - 1}, {0, math.MaxUint64}, {math.MaxUint64 - 1, 1}}
	for range 10 {
		d := r.Uint64()
		pairs = append(pairs, [2]uint64{d, r.Uint64() % (math.MaxUint64 - d)})
	}
	for _, n := range someModuli() {
		for _, a := range someResidues(n, r) {
			for _, c := range pairs {
				x, _ := Pow(a, c[0], n)
				y, _ := Pow(a, c[1], n)
				want, _ := Mul(x, y, n)
				got, e := Pow(a, c[0]+c[1], n)
				checkResidue(t, "Pow(a, d + e, n)", got, e, want)
			}
		}
	}
}
