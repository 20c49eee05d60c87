package wide

import (
	"math"
	"reflect"
	"testing"

	"obscura/api"
)

// outcome is what a call returns.
type outcome struct {
	name   string
	values []any
	e      api.Errno
}

// zero reports whether all values are.
func (o outcome) zero() bool {
	for _, v := range o.values {
		if !reflect.ValueOf(v).IsZero() {
			return false
		}
	}
	return true
}

// outcomes calls every function of forms that returns an error: those of one form, and those of two.
func outcomes(a, b api.Wide, n uint32, k int) (ones, twos []outcome) {
	for name, f := range map[string]func(a api.Wide) (api.Wide, api.Errno){"Neg": Neg, "Abs": Abs, "Sqrt": Sqrt} {
		x, e := f(a)
		ones = append(ones, outcome{name, []any{x}, e})
	}
	for name, f := range map[string]func(a api.Wide, k int) (api.Wide, api.Errno){"Shl": Shl, "Shr": Shr, "Pow": Pow} {
		x, e := f(a, k)
		ones = append(ones, outcome{name, []any{x}, e})
	}
	i, e := Int(a)
	ones = append(ones, outcome{"Int", []any{i}, e})
	s, e := Text(a)
	ones = append(ones, outcome{"Text", []any{s}, e})
	l, e := Bits(a)
	ones = append(ones, outcome{"Bits", []any{l}, e})
	m, e := Mod(a, n)
	ones = append(ones, outcome{"Mod", []any{m}, e})
	for name, f := range map[string]func(a, b api.Wide) (api.Wide, api.Errno){"Max": Max, "Add": Add, "Sub": Sub, "Mul": Mul, "Round": Round, "Balanced": Balanced} {
		x, e := f(a, b)
		twos = append(twos, outcome{name, []any{x}, e})
	}
	c, e := Cmp(a, b)
	twos = append(twos, outcome{"Cmp", []any{c}, e})
	q, r, e := Div(a, b)
	twos = append(twos, outcome{"Div", []any{q, r}, e})
	return ones, twos
}

// checkOutcomes tests that all outcomes are an error with zeros beside it.
func checkOutcomes(t *testing.T, want api.Errno, list []outcome) {
	t.Helper()
	for _, o := range list {
		if o.e != want || !o.zero() {
			t.Errorf("%s of a form that is not valid: %v, error %d; want %d", o.name, o.values, o.e, want)
		}
	}
}

// The first promise of the chapter, and R2: a form that is not valid is ErrArg in each place of each function, whatever the other arguments are.
func TestBadForms(t *testing.T) {
	others := append(badForms(), Of(0), Of(1), Of(-1), wideOf(pow2(2048, -1)))
	for _, bad := range badForms() {
		for _, x := range others {
			for _, k := range []int{0, 1, 4096, 4097, -1} {
				ones, twos := outcomes(bad, x, uint32(k), k)
				checkOutcomes(t, api.ErrArg, ones)
				checkOutcomes(t, api.ErrArg, twos)
				_, twos = outcomes(x, bad, uint32(k), k)
				checkOutcomes(t, api.ErrArg, twos)
			}
		}
	}
}

// byName sorts outcomes into a map.
func byName(lists ...[]outcome) map[string]outcome {
	m := map[string]outcome{}
	for _, list := range lists {
		for _, o := range list {
			m[o.name] = o
		}
	}
	return m
}

// R1, R2 and R6: for extreme arguments the functions return, with zeros beside an error, with the errors that the chapter allows and valid forms, and the same again.
func TestRules(t *testing.T) {
	mayRange := map[string]bool{"Int": true, "Add": true, "Sub": true, "Mul": true, "Shl": true, "Pow": true}
	for _, v := range edges() {
		for i, w := range edges() {
			k := []int{0, 1, 32, 2047, 2048, 4096, -1, 4097, math.MaxInt, math.MinInt}[i%10]
			first := byName(outcomes(wideOf(v), wideOf(w), uint32(i-1), k))
			again := byName(outcomes(wideOf(v), wideOf(w), uint32(i-1), k))
			if !reflect.DeepEqual(first, again) {
				t.Fatalf("(%d, %d, %d, %d): not the same again", v, w, i-1, k)
			}
			for name, o := range first {
				if o.e != api.OK && !o.zero() || o.e != api.OK && o.e != api.ErrArg && !(o.e == api.ErrRange && mayRange[name]) {
					t.Errorf("%s(%d, %d, %d, %d): %v beside error %d", name, v, w, i-1, k, o.values, o.e)
				}
				for _, x := range o.values {
					if form, ok := x.(api.Wide); ok && !Valid(form) {
						t.Errorf("%s(%d, %d, %d, %d): %v is not valid", name, v, w, i-1, k, x)
					}
				}
			}
		}
	}
}
