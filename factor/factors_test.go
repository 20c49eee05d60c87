package factor

import (
	"slices"
	"testing"

	"obscura/api"
	"obscura/poly"
)

// factors returns a result of Factors that has no error.
func factors(t *testing.T, n int, p uint32) [][]uint32 {
	t.Helper()
	list, e := Factors(n, p)
	if e != api.OK {
		t.Fatalf("Factors(%d, %d): error %d", n, p, e)
	}
	return list
}

// equal reports whether two lists have the same polynomials.
func equal(a, b [][]uint32) bool { return slices.EqualFunc(a, b, slices.Equal[[]uint32]) }

// P7.2: the examples of the chapter, and a few others.
func TestFactorsOfTheChapter(t *testing.T) {
	for _, c := range []struct {
		n    int
		p    uint32
		want [][]uint32
	}{
		{4, 3, [][]uint32{{2, 1, 1}, {2, 2, 1}}},
		{2, 5, [][]uint32{{2, 1}, {3, 1}}},
		{2, 3, [][]uint32{{1, 0, 1}}},
		{4, 5, [][]uint32{{2, 0, 1}, {3, 0, 1}}},
		{4, 7, [][]uint32{{1, 3, 1}, {1, 4, 1}}},
		{4, 17, [][]uint32{{2, 1}, {8, 1}, {9, 1}, {15, 1}}},
	} {
		if list := factors(t, c.n, c.p); !equal(list, c.want) {
			t.Errorf("Factors(%d, %d): %v; want %v", c.n, c.p, list, c.want)
		}
	}
}

// checkFactors tests that a list has the properties of the factors of x^n + 1, and is in their order.
func checkFactors(t *testing.T, n int, p uint32, list [][]uint32) {
	t.Helper()
	d := order(n, p)
	if len(list) != n/d {
		t.Fatalf("Factors(%d, %d): %d factors; want %d", n, p, len(list), n/d)
	}
	for i, f := range list {
		if len(f) != d+1 || f[d] != 1 || poly.Check(p, f) != api.OK {
			t.Fatalf("Factors(%d, %d): %v is no monic polynomial of the degree %d", n, p, f, d)
		}
		// No factor occurs twice.
		if i > 0 && !before(list[i-1], f) {
			t.Fatalf("Factors(%d, %d): %v stands before %v", n, p, list[i-1], f)
		}
	}
	if product := exactProduct(p, list); !slices.Equal(product, sum(n)) {
		t.Fatalf("Factors(%d, %d): the product is %v", n, p, product)
	}
}

// before reports whether the first elements that differ are ascending.
func before(a, b []uint32) bool {
	for i, c := range a {
		if c != b[i] {
			return c < b[i]
		}
	}
	return false
}

// P7.2 and P7.5: the degrees, the product and the order for all plain primes in the small dimensions, and for the least ones and many others in the great ones.
func TestFactors(t *testing.T) {
	for _, n := range dimensions {
		list := plainPrimes()
		if n > 8 {
			list = somePrimes(uint32(64000/n), 4*n)
		}
		for _, p := range list {
			checkFactors(t, n, p, factors(t, n, p))
		}
	}
}

// P7.2 and P7.5: a search through all monic polynomials finds the same, and none of a lesser degree.
func TestFactorsBySearch(t *testing.T) {
	const most = 400000
	for _, n := range dimensions {
		for _, p := range plainPrimes() {
			if p > 200 {
				break
			}
			d := order(n, p)
			count := uint64(1)
			for range d {
				count *= uint64(p)
			}
			if count > most {
				continue
			}
			for k := 1; k < d; k++ {
				if lesser := monic(n, p, k); len(lesser) != 0 {
					t.Fatalf("x^%d + 1 has the factors %v modulo %d", n, lesser, p)
				}
			}
			if list, want := factors(t, n, p), monic(n, p, d); !equal(list, want) {
				t.Fatalf("Factors(%d, %d): %v; want %v", n, p, list, want)
			}
		}
	}
}

// P7.6: if p is 1 modulo 2 n, the factors belong to the roots.
func TestLinearFactors(t *testing.T) {
	for _, n := range dimensions {
		for _, p := range somePrimes(5000, 50) {
			if p%uint32(2*n) != 1 {
				continue
			}
			z, ok := leastRoot(n, p)
			if !ok {
				t.Fatalf("no root of x^%d + 1 modulo %d", n, p)
			}
			var want [][]uint32
			for k := 1; k < 2*n; k += 2 {
				want = append(want, []uint32{p - power(z, k, p), 1})
			}
			slices.SortFunc(want, func(a, b []uint32) int { return int(a[0]) - int(b[0]) })
			if list := factors(t, n, p); !equal(list, want) {
				t.Fatalf("Factors(%d, %d): %v; want %v", n, p, list, want)
			}
		}
	}
}
