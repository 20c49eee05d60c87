package poly

import (
	"math"
	"math/rand"
	"slices"
	"testing"

	"obscura/api"
)

// noModuli are numbers that are no moduli.
var noModuli = []uint32{0, 1, top + 1, top + 2, 2147483659, math.MaxUint32 - 4, math.MaxUint32}

// faulty are polynomials modulo 17 with the errors of Check.
var faulty = []struct {
	a []uint32
	e api.Errno
}{
	{some{0}, api.ErrArg}, {some{1, 0}, api.ErrArg}, {some{17}, api.ErrArg}, {some{17, 1}, api.ErrArg}, {some{1, 17, 1}, api.ErrArg}, {some{1, math.MaxUint32}, api.ErrArg}, {some{34, 0}, api.ErrArg}, {make(some, 256), api.ErrArg},
	{make(some, 257), api.ErrLong}, {slices.Repeat(some{1}, 257), api.ErrLong}, {slices.Repeat(some{17}, 300), api.ErrLong}, {slices.Repeat(some{1}, 1000), api.ErrLong},
}

// good are polynomials modulo 17, with the last one of the greatest degree.
var good = [][]uint32{nil, {}, {1}, {0, 16}, slices.Repeat([]uint32{16}, 256)}

// P5.1: which polynomials are valid.
func TestCheck(t *testing.T) {
	r := rand.New(rand.NewSource(51))
	for _, m := range numbers {
		for _, n := range []int{0, 1, 2, 3, 17, 255, 256} {
			a := polynomial(r, m, n)
			if e := Check(m, a); e != api.OK {
				t.Errorf("Check(%d, %v): error %d", m, a, e)
			}
			if n == 0 {
				continue
			}
			at := r.Intn(n)
			for _, bad := range []uint32{m, m + 1, math.MaxUint32} {
				b := slices.Clone(a)
				b[at] = bad
				if e := Check(m, b); e != api.ErrArg {
					t.Errorf("Check(%d, %v): error %d; want ErrArg", m, b, e)
				}
			}
			a[n-1] = 0
			if e := Check(m, a); e != api.ErrArg {
				t.Errorf("Check(%d, %v): error %d; want ErrArg", m, a, e)
			}
		}
	}
	for _, c := range faulty {
		if e := Check(17, c.a); e != c.e {
			t.Errorf("Check(17, %v): error %d; want %d", c.a, e, c.e)
		}
	}
}

// P5.1: what is no modulus comes before everything else.
func TestCheckOfModuli(t *testing.T) {
	for _, m := range noModuli {
		for _, a := range [][]uint32{nil, {}, {0}, {1}, {m}, slices.Repeat([]uint32{1}, 257)} {
			if e := Check(m, a); e != api.ErrArg {
				t.Errorf("Check(%d, %v): error %d; want ErrArg", m, a, e)
			}
		}
	}
}

// both are the functions of two polynomials, with the other arguments valid.
var both = map[string]func(m uint32, a, b []uint32) ([]uint32, api.Errno){
	"Add": Add, "Sub": Sub, "Mul": Mul, "Gcd": Gcd,
	"DivMod": func(m uint32, a, b []uint32) ([]uint32, api.Errno) {
		q, r, e := DivMod(m, a, b)
		return slices.Concat(q, r), e
	},
	"PowMod": func(m uint32, a, b []uint32) ([]uint32, api.Errno) { return PowMod(m, a, 3, b) },
}

// one are the functions of one polynomial, with other arguments that are not valid.
var one = map[string]func(m uint32, a []uint32) ([]uint32, api.Errno){
	"Wrap": func(m uint32, a []uint32) ([]uint32, api.Errno) { return Wrap(m, a, 0) },
	"Eval": func(m uint32, a []uint32) ([]uint32, api.Errno) {
		v, e := Eval(m, a, m)
		if v == 0 {
			return nil, e
		}
		return some{v}, e
	},
}

// P5.1: the functions return the error of Check of the first polynomial, then that of the second one, before their own errors.
func TestErrorsOfCheck(t *testing.T) {
	for name, f := range both {
		for _, bad := range faulty {
			for _, other := range faulty {
				got, e := f(17, bad.a, other.a)
				checkError(t, got, e, bad.e, "%s(17, %v, %v)", name, bad.a, other.a)
			}
			for _, a := range good {
				got, e := f(17, bad.a, a)
				checkError(t, got, e, bad.e, "%s(17, %v, %v)", name, bad.a, a)
				got, e = f(17, a, bad.a)
				checkError(t, got, e, bad.e, "%s(17, %v, %v)", name, a, bad.a)
			}
		}
		for _, m := range noModuli {
			for _, a := range append(good, some{0}, slices.Repeat(some{1}, 257)) {
				got, e := f(m, a, a)
				checkError(t, got, e, api.ErrArg, "%s(%d, %v, %v)", name, m, a, a)
			}
		}
	}
	for name, f := range one {
		for _, bad := range faulty {
			got, e := f(17, bad.a)
			checkError(t, got, e, bad.e, "%s(17, %v)", name, bad.a)
		}
		for _, m := range noModuli {
			got, e := f(m, slices.Repeat(some{1}, 257))
			checkError(t, got, e, api.ErrArg, "%s(%d, ..)", name, m)
		}
	}
}
