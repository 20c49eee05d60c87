package modular

import (
	"math"
	"math/big"
	"math/rand"
	"slices"
	"testing"

	"obscura/api"
)

// sieve returns for each number below n whether it is a prime.
func sieve(n int) []bool {
	l := make([]bool, n)
	for i := 2; i < n; i++ {
		l[i] = true
	}
	for i := 2; i*i < n; i++ {
		for j := i * i; l[i] && j < n; j += i {
			l[j] = false
		}
	}
	return l
}

// P1.4: all small numbers.
func TestPrimeSmall(t *testing.T) {
	for n, want := range sieve(200000) {
		if Prime(uint32(n)) != want {
			t.Errorf("Prime(%d) is not %v", n, want)
		}
	}
}

// P1.4: the examples, the bases of the tests, and numbers that pass the strong test to some bases.
func TestPrimeEdges(t *testing.T) {
	for n, want := range map[uint32]bool{
		0: false, 1: false, 2: true, 3: true, 4: false, 7: true, 61: true,
		49: false, 427: false, 3721: false, // products of the bases
		2047: false, 25: false, 217: false, // they pass the test to the base 2, 7 or 61 alone
		314821: false, 916327: false, 79381: false, // to 2 and 7, to 2 and 61, to 7 and 61
		561: false, 1729: false,
		65521 * 65521: false, 65521: true, 65519 * 65521: false,
		2147483647: true, 2147483649: false, 2147483659: true,
		4294967291: true, 4294967295: false, 4294967294: false, 4294967279: true,
	} {
		if Prime(n) != want {
			t.Errorf("Prime(%d) is not %v", n, want)
		}
	}
}

// P1.4: numbers of all sizes, also those above MaxMod.
func TestPrimeGreat(t *testing.T) {
	r := rand.New(rand.NewSource(8))
	check := func(n uint32) {
		if want := wide(n).ProbablyPrime(0); Prime(n) != want {
			t.Errorf("Prime(%d) is not %v", n, want)
		}
	}
	for i := range uint32(2000) {
		check(math.MaxUint32 - i)
		check(1<<31 - 1000 + i)
		check(r.Uint32() | 1)
	}
}

func checkFactors(t *testing.T, n uint32) {
	t.Helper()
	l, e := Factors(n)
	if e != api.OK {
		t.Errorf("Factors(%d): error %d", n, e)
	}
	product, last := big.NewInt(1), uint32(1)
	for _, f := range l {
		if f.Prime <= last || !wide(f.Prime).ProbablyPrime(0) || f.Exponent < 1 {
			t.Errorf("Factors(%d): %v", n, l)
		}
		last = f.Prime
		product.Mul(product, new(big.Int).Exp(wide(f.Prime), big.NewInt(int64(f.Exponent)), nil))
	}
	if product.Cmp(wide(n)) != 0 {
		t.Errorf("Factors(%d): the product of %v is %v", n, l, product)
	}
}

// P1.4 and P1.7: the factors are ascending primes with exponents from 1 on, and their product is n.
func TestFactors(t *testing.T) {
	for n := uint32(1); n <= 20000; n++ {
		checkFactors(t, n)
	}
	r := rand.New(rand.NewSource(9))
	for i := range uint32(200) {
		checkFactors(t, math.MaxUint32-i)
		checkFactors(t, 1<<31-100+i)
		checkFactors(t, r.Uint32()|1)
	}
}

// P1.4: the examples, powers, products of two great primes, and 0.
func TestFactorsEdges(t *testing.T) {
	for _, c := range []struct {
		n    uint32
		want []api.Power
	}{
		{360, []api.Power{{Prime: 2, Exponent: 3}, {Prime: 3, Exponent: 2}, {Prime: 5, Exponent: 1}}},
		{1, nil},
		{2, []api.Power{{Prime: 2, Exponent: 1}}},
		{4, []api.Power{{Prime: 2, Exponent: 2}}},
		{1 << 31, []api.Power{{Prime: 2, Exponent: 31}}},
		{3486784401, []api.Power{{Prime: 3, Exponent: 20}}},
		{65521 * 65521, []api.Power{{Prime: 65521, Exponent: 2}}},
		{65519 * 65521, []api.Power{{Prime: 65519, Exponent: 1}, {Prime: 65521, Exponent: 1}}},
		{2 * 2147483629, []api.Power{{Prime: 2, Exponent: 1}, {Prime: 2147483629, Exponent: 1}}},
		{4294967291, []api.Power{{Prime: 4294967291, Exponent: 1}}},
		{4294967295, []api.Power{{Prime: 3, Exponent: 1}, {Prime: 5, Exponent: 1}, {Prime: 17, Exponent: 1}, {Prime: 257, Exponent: 1}, {Prime: 65537, Exponent: 1}}},
	} {
		if l, e := Factors(c.n); !slices.Equal(l, c.want) || e != api.OK {
			t.Errorf("Factors(%d): %v, error %d; want %v", c.n, l, e, c.want)
		}
	}
	if l, e := Factors(0); len(l) != 0 || e != api.ErrArg {
		t.Errorf("Factors(0): %v, error %d; want ErrArg", l, e)
	}
}

// R3: each result is new memory.
func TestFactorsAreNew(t *testing.T) {
	a, _ := Factors(360)
	for i := range a {
		a[i] = api.Power{}
	}
	b, _ := Factors(360)
	if !slices.Equal(b, []api.Power{{Prime: 2, Exponent: 3}, {Prime: 3, Exponent: 2}, {Prime: 5, Exponent: 1}}) {
		t.Errorf("Factors(360) behind a change of an earlier result: %v", b)
	}
}
