package factor

import (
	"testing"

	"obscura/api"
)

// P7.1: the examples of the chapter.
func TestDegreeOfTheChapter(t *testing.T) {
	for _, c := range []struct {
		n    int
		p    uint32
		want int
	}{{4, 17, 1}, {4, 3, 2}, {32, 3, 16}} {
		if d, e := Degree(c.n, c.p); d != c.want || e != api.OK {
			t.Errorf("Degree(%d, %d): %d, error %d; want %d", c.n, c.p, d, e, c.want)
		}
	}
}

// P7.1: the degrees for all dimensions and plain primes.
func TestDegree(t *testing.T) {
	for _, n := range dimensions {
		for _, p := range plainPrimes() {
			if d, e := Degree(n, p); d != order(n, p) || e != api.OK {
				t.Fatalf("Degree(%d, %d): %d, error %d; want %d", n, p, d, e, order(n, p))
			}
		}
	}
}

// P7.1 and P7.2: all other numbers up to a little above 2^16 are no plain primes, nor are greater ones.
func TestNoPlainPrimes(t *testing.T) {
	plain := map[uint32]bool{}
	for _, p := range plainPrimes() {
		plain[p] = true
	}
	none := noPrimes
	for p := range uint32(70000) {
		if !plain[p] {
			none = append(none, p)
		}
	}
	for _, n := range append(dimensions, noDimensions...) {
		for _, p := range none {
			checkNoDegree(t, n, p)
		}
	}
}

// P7.1 and P7.2: what is no dimension.
func TestNoDimensions(t *testing.T) {
	for _, n := range noDimensions {
		for _, p := range []uint32{3, 5, 17, 193, 257, 65521} {
			checkNoDegree(t, n, p)
		}
	}
	for n := -100; n <= 100; n++ {
		if n != 2 && n != 4 && n != 8 && n != 16 && n != 32 {
			checkNoDegree(t, n, 17)
		}
	}
}

// checkNoDegree tests that the arguments are not valid for Degree and Factors.
func checkNoDegree(t *testing.T, n int, p uint32) {
	t.Helper()
	if d, e := Degree(n, p); d != 0 || e != api.ErrArg {
		t.Fatalf("Degree(%d, %d): %d, error %d; want ErrArg", n, p, d, e)
	}
	if list, e := Factors(n, p); len(list) != 0 || e != api.ErrArg {
		t.Fatalf("Factors(%d, %d): %v, error %d; want ErrArg", n, p, list, e)
	}
}
