package poly

import (
	"math/rand"
	"slices"
	"testing"

	"obscura/api"
)

// forPairs calls f for all pairs of small polynomials of small moduli, and for pairs of large ones of all lengths whose product is short enough.
func forPairs(t *testing.T, f func(m uint32, a, b []uint32)) {
	t.Helper()
	for m := range uint32(7) {
		if m < 2 {
			continue
		}
		list := all(m, 5-int(m+1)/2)
		for _, a := range list {
			for _, b := range list {
				f(m, a, b)
			}
		}
	}
	r := rand.New(rand.NewSource(52))
	for _, m := range numbers {
		for _, n := range [][2]int{{0, 0}, {0, 256}, {256, 0}, {1, 1}, {1, 256}, {256, 1}, {2, 255}, {128, 129}, {129, 128}, {7, 3}, {3, 7}, {20, 20}} {
			for range 4 {
				f(m, polynomial(r, m, n[0]), polynomial(r, m, n[1]))
			}
		}
	}
}

// P5.2: sums, differences and products of exact integers, modulo m.
func TestAddSubMul(t *testing.T) {
	forPairs(t, func(m uint32, a, b []uint32) {
		got, e := Add(m, a, b)
		checkList(t, got, e, exactSum(m, a, 1, b), "Add(%d, %v, %v)", m, a, b)
		got, e = Sub(m, a, b)
		checkList(t, got, e, exactSum(m, a, -1, b), "Sub(%d, %v, %v)", m, a, b)
		got, e = Mul(m, a, b)
		checkList(t, got, e, exactProduct(m, a, b), "Mul(%d, %v, %v)", m, a, b)
	})
}

// P5.2: the greatest lengths of sums, whose last elements may be 0.
func TestLongSums(t *testing.T) {
	r := rand.New(rand.NewSource(53))
	for _, m := range numbers {
		a := polynomial(r, m, 256)
		got, e := Sub(m, a, a)
		checkList(t, got, e, nil, "Sub(%d, a, a)", m)
		b := slices.Clone(a)
		b[100] = (b[100] + 1) % m
		got, e = Sub(m, b, a)
		checkList(t, got, e, append(make([]uint32, 100), 1), "Sub(%d, b, a)", m)
		minus := must(t)(Sub(m, nil, a))
		got, e = Add(m, a, minus)
		checkList(t, got, e, nil, "Add(%d, a, -a)", m)
		got, e = Add(m, minus, b)
		checkList(t, got, e, append(make([]uint32, 100), 1), "Add(%d, -a, b)", m)
	}
}

// P5.2: products are too long by the numbers of elements of the factors, even if the product would be short.
func TestLongProducts(t *testing.T) {
	for _, m := range numbers {
		for n := range 257 {
			a := slices.Repeat(some{m - 1}, n)
			for _, k := range []int{0, 1, 2, 128, 129, 256 - n, 257 - n, 258 - n, 255, 256} {
				if k < 0 || k > 256 {
					continue
				}
				b := append(make(some, max(0, k-1)), 1)[:k]
				got, e := Mul(m, a, b)
				if n > 0 && k > 0 && n+k > 257 {
					checkError(t, got, e, api.ErrLong, "Mul(%d, %d elements, %d elements)", m, n, k)
				} else if want := append(make(some, max(0, k-1)), a...); n > 0 && k > 0 {
					checkList(t, got, e, want, "Mul(%d, %d elements, %d elements)", m, n, k)
				} else {
					checkList(t, got, e, nil, "Mul(%d, %d elements, %d elements)", m, n, k)
				}
			}
		}
	}
	got, e := Mul(4, append(make(some, 199), 2), append(make(some, 57), 2))
	checkError(t, got, e, api.ErrLong, "Mul of 2 x^199 and 2 x^57 modulo 4")
	got, e = Mul(4, append(make(some, 199), 2), append(make(some, 56), 2))
	checkList(t, got, e, nil, "Mul of 2 x^199 and 2 x^56 modulo 4")
}

// The examples of the chapter for P5.2.
func TestSumsOfTheChapter(t *testing.T) {
	got, e := Add(17, some{1, 16}, some{3, 1})
	checkList(t, got, e, some{4}, "Add")
	got, e = Sub(17, some{0, 1}, some{0, 1})
	checkList(t, got, e, nil, "Sub")
	got, e = Mul(17, some{1, 1}, some{16, 1})
	checkList(t, got, e, some{16, 0, 1}, "Mul")
	got, e = Mul(6, some{0, 2}, some{0, 3})
	checkList(t, got, e, nil, "Mul modulo 6")
}

// P5.8: the laws of a ring, and values of sums and products.
func TestRing(t *testing.T) {
	r := rand.New(rand.NewSource(58))
	do := must(t)
	equal := func(m uint32, law string, a, b []uint32) {
		t.Helper()
		if !slices.Equal(a, b) {
			t.Fatalf("modulo %d, %s: %v and %v", m, law, a, b)
		}
	}
	for _, m := range numbers {
		for range 30 {
			a, b, c := polynomial(r, m, r.Intn(80)), polynomial(r, m, r.Intn(80)), polynomial(r, m, r.Intn(80))
			equal(m, "a + b = b + a", do(Add(m, a, b)), do(Add(m, b, a)))
			equal(m, "a b = b a", do(Mul(m, a, b)), do(Mul(m, b, a)))
			equal(m, "a + (b + c) = (a + b) + c", do(Add(m, a, do(Add(m, b, c)))), do(Add(m, do(Add(m, a, b)), c)))
			equal(m, "a (b c) = (a b) c", do(Mul(m, a, do(Mul(m, b, c)))), do(Mul(m, do(Mul(m, a, b)), c)))
			equal(m, "a (b + c) = a b + a c", do(Mul(m, a, do(Add(m, b, c)))), do(Add(m, do(Mul(m, a, b)), do(Mul(m, a, c)))))
			equal(m, "(a - b) + b = a", do(Add(m, do(Sub(m, a, b)), b)), a)
			checkValues(t, r, m, a, b)
		}
	}
}

// checkValues tests the values of a sum, a difference and a product at a few places.
func checkValues(t *testing.T, r *rand.Rand, m uint32, a, b []uint32) {
	t.Helper()
	do := must(t)
	for _, x := range drawn(r, m, 3) {
		at := func(c []uint32) uint64 { return uint64(exactValue(m, do(c, api.OK), x)) }
		checkValue(t, m, do(Add(m, a, b)), x, (at(a)+at(b))%uint64(m))
		checkValue(t, m, do(Sub(m, a, b)), x, (at(a)+uint64(m)-at(b))%uint64(m))
		checkValue(t, m, do(Mul(m, a, b)), x, at(a)*at(b)%uint64(m))
	}
}

// checkValue tests a value.
func checkValue(t *testing.T, m uint32, a []uint32, x uint32, want uint64) {
	t.Helper()
	if v, e := Eval(m, a, x); uint64(v) != want || e != api.OK {
		t.Fatalf("Eval(%d, %v, %d): %d, error %d; want %d", m, a, x, v, e, want)
	}
}
