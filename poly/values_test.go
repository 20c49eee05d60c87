package poly

import (
	"math"
	"math/rand"
	"slices"
	"testing"

	"obscura/api"
)

// filled returns a list of n residues with zeros at its end.
func filled(a []uint32, n int) []uint32 {
	return slices.Concat(a, make([]uint32, n-len(a)))
}

// P5.6: Wrap by the chapter's formula, with exactly n residues.
func TestWrap(t *testing.T) {
	r := rand.New(rand.NewSource(61))
	for _, m := range numbers {
		for _, k := range []int{0, 1, 2, 3, 8, 31, 255, 256} {
			a := polynomial(r, m, k)
			for _, n := range []int{1, 2, 3, 4, 7, 8, 32, 127, 128, 129, 255, 256} {
				got, e := Wrap(m, a, n)
				checkList(t, got, e, filled(wrappedBy(m, a, n), n), "Wrap(%d, %v, %d)", m, a, n)
			}
			for _, n := range []int{0, -1, 257, 1000, math.MinInt, math.MaxInt} {
				got, e := Wrap(m, a, n)
				checkError(t, got, e, api.ErrArg, "Wrap(%d, %v, %d)", m, a, n)
			}
		}
	}
	for m := uint32(2); m < 6; m++ {
		for _, a := range all(m, 4) {
			for n := 1; n < 6; n++ {
				got, e := Wrap(m, a, n)
				checkList(t, got, e, filled(wrappedBy(m, a, n), n), "Wrap(%d, %v, %d)", m, a, n)
			}
		}
	}
}

// The examples of the chapter for P5.6 and P5.7.
func TestValuesOfTheChapter(t *testing.T) {
	got, e := Wrap(17, some{1, 2, 3, 4, 5}, 2)
	checkList(t, got, e, some{3, 15}, "Wrap")
	got, e = Interpolate(17, some{0, 1, 2}, some{1, 2, 5})
	checkList(t, got, e, some{1, 0, 1}, "Interpolate")
	got, e = Interpolate(17, some{0, 0}, some{1, 1})
	checkError(t, got, e, api.ErrRange, "Interpolate")
}

// P5.9: products before and behind Wrap.
func TestWrapOfProducts(t *testing.T) {
	forPairs(t, func(m uint32, a, b []uint32) {
		do := must(t)
		for _, n := range []int{1, 2, 3, 8, 32, 128} {
			c, d := wrappedBy(m, a, n), wrappedBy(m, b, n)
			checkList(t, do(Wrap(m, a, n)), api.OK, filled(c, n), "Wrap(%d, %v, %d)", m, a, n)
			want := do(Wrap(m, do(Mul(m, c, d)), n))
			checkList(t, do(Wrap(m, do(Mul(m, a, b)), n)), api.OK, want, "Wrap of the product of %v and %v modulo %d", a, b, m)
		}
	})
}

// P5.6: values as the sums of the terms, and places that are refused.
func TestEval(t *testing.T) {
	r := rand.New(rand.NewSource(62))
	for _, m := range numbers {
		for _, n := range []int{0, 1, 2, 3, 100, 256} {
			a := polynomial(r, m, n)
			for _, x := range append(drawn(r, m, 5), 0, 1, m-1) {
				checkValue(t, m, a, x, uint64(exactValue(m, a, x)))
			}
			for _, x := range []uint32{m, m + 1, math.MaxUint32} {
				if v, e := Eval(m, a, x); v != 0 || e != api.ErrArg {
					t.Errorf("Eval(%d, %v, %d): %d, error %d; want ErrArg", m, a, x, v, e)
				}
			}
		}
	}
	for m := uint32(2); m < 8; m++ {
		for _, a := range all(m, 3) {
			for x := range m {
				checkValue(t, m, a, x, uint64(exactValue(m, a, x)))
			}
		}
	}
}

// checkThrough tests that a polynomial has the values ys at xs and no more elements than them.
func checkThrough(t *testing.T, m uint32, xs, ys []uint32) {
	t.Helper()
	a, e := Interpolate(m, xs, ys)
	if e != api.OK || len(a) > len(xs) || Check(m, a) != api.OK {
		t.Fatalf("Interpolate(%d, %v, %v): %v, error %d", m, xs, ys, a, e)
	}
	for i, x := range xs {
		if v := exactValue(m, a, x); v != ys[i] {
			t.Fatalf("Interpolate(%d, %v, %v) is %v with the value %d at %d", m, xs, ys, a, v, x)
		}
	}
}

// apart reports whether all differences are units.
func apart(m uint32, xs []uint32) bool {
	for i, x := range xs {
		for _, y := range xs[:i] {
			if !unit((x+m-y)%m, m) {
				return false
			}
		}
	}
	return true
}

// lists returns all lists of n residues.
func lists(m uint32, n int) [][]uint32 {
	list := [][]uint32{nil}
	for range n {
		var longer [][]uint32
		for _, a := range list {
			for c := range m {
				longer = append(longer, append(slices.Clone(a), c))
			}
		}
		list = longer
	}
	return list
}

// P5.7: all values at all places of small moduli, in every order.
func TestInterpolate(t *testing.T) {
	for m := uint32(2); m < 10; m++ {
		for n := 0; n < 4 && (n < 3 || m < 8); n++ {
			all := lists(m, n)
			for _, xs := range all {
				for _, ys := range all {
					if apart(m, xs) {
						checkThrough(t, m, xs, ys)
						continue
					}
					got, e := Interpolate(m, xs, ys)
					checkError(t, got, e, api.ErrRange, "Interpolate(%d, %v, %v)", m, xs, ys)
				}
			}
		}
	}
}

// P5.7: long lists of places and values, up to the greatest number.
func TestLongInterpolate(t *testing.T) {
	r := rand.New(rand.NewSource(63))
	for _, m := range []uint32{257, 65537, top - 18, top, 263 * 263, 1283 * 1283 * 1289} {
		for _, n := range []int{1, 2, 3, 50, 255, 256} {
			xs := make([]uint32, n)
			for i, place := range r.Perm(256)[:n] {
				xs[i] = uint32(place)
				if m > 100000 {
					xs[i] = m - 1 - uint32(place)
				}
			}
			checkThrough(t, m, xs, drawn(r, m, n))
			checkThrough(t, m, xs, make(some, n))
			a := polynomial(r, m, n)
			ys := make([]uint32, n)
			for i, x := range xs {
				ys[i] = exactValue(m, a, x)
			}
			got, e := Interpolate(m, xs, ys)
			checkList(t, got, e, a, "Interpolate(%d, %v, %v)", m, xs, ys)
		}
	}
}

// P5.7: two places anywhere whose difference is no unit.
func TestNoUnits(t *testing.T) {
	r := rand.New(rand.NewSource(64))
	for _, m := range []uint32{65537, top, 46337 * 46337, 263 * 263} {
		step := m
		if m == 46337*46337 {
			step = 46337
		}
		if m == 263*263 {
			step = 263
		}
		for _, n := range []int{2, 3, 40, 256} {
			xs, ys := make([]uint32, n), drawn(r, m, n)
			for i := range xs {
				xs[i] = uint32(i)
			}
			checkThrough(t, m, xs, ys)
			for range 8 {
				at := r.Perm(n)
				one, two := at[0], at[1]
				xs[one] = (xs[two] + step) % m
				got, e := Interpolate(m, xs, ys)
				checkError(t, got, e, api.ErrRange, "Interpolate(%d, %v, ..)", m, xs)
				xs[one] = uint32(one)
			}
		}
	}
}

// P5.7: the errors in their order.
func TestInterpolateRefuses(t *testing.T) {
	long := make(some, 257)
	for i := range long {
		long[i] = uint32(i)
	}
	for _, m := range noModuli {
		for _, xs := range [][]uint32{nil, {0}, {0, 0}, {m}, long} {
			got, e := Interpolate(m, xs, xs)
			checkError(t, got, e, api.ErrArg, "Interpolate(%d, %v, %v)", m, xs, xs)
		}
	}
	for _, c := range []struct {
		xs, ys []uint32
		e      api.Errno
	}{
		{nil, some{1}, api.ErrArg}, {some{1}, nil, api.ErrArg}, {some{1, 1}, some{1}, api.ErrArg}, {some{1}, some{1, 1}, api.ErrArg}, {some{17}, some{1, 1}, api.ErrArg},
		{long, long[1:], api.ErrArg}, {long[1:], long, api.ErrArg}, {long, nil, api.ErrArg},
		{long, long, api.ErrLong}, {make(some, 257), make(some, 257), api.ErrLong}, {slices.Repeat(some{17}, 257), long, api.ErrLong}, {make(some, 1000), make(some, 1000), api.ErrLong},
		{some{17}, some{1}, api.ErrArg}, {some{1}, some{17}, api.ErrArg}, {some{1, 1, 17}, some{0, 0, 0}, api.ErrArg}, {some{1, 1}, some{0, 17}, api.ErrArg}, {some{1, 1}, some{math.MaxUint32, 0}, api.ErrArg}, {long[:256], long[:256], api.ErrArg},
		{some{1, 1}, some{0, 0}, api.ErrRange}, {some{1, 2, 1}, some{5, 6, 5}, api.ErrRange}, {make(some, 256), make(some, 256), api.ErrRange},
		{nil, nil, api.OK}, {some{}, nil, api.OK}, {some{16}, some{0}, api.OK}, {some{16, 0}, some{0, 0}, api.OK},
	} {
		got, e := Interpolate(17, c.xs, c.ys)
		checkError(t, got, e, c.e, "Interpolate(17, %v, %v)", c.xs, c.ys)
	}
}
