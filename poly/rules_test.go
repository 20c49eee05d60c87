package poly

import (
	"math"
	"math/rand"
	"reflect"
	"slices"
	"testing"

	"obscura/api"
)

// answer is what a call returned.
type answer struct {
	lists [][]uint32
	value uint32
	e     api.Errno
}

// answers calls every function.
func answers(m uint32, a, b []uint32, n int) []answer {
	list := []answer{{e: Check(m, a)}}
	note := func(a []uint32, e api.Errno) { list = append(list, answer{lists: [][]uint32{a}, e: e}) }
	note(Add(m, a, b))
	note(Sub(m, a, b))
	note(Mul(m, a, b))
	note(Gcd(m, a, b))
	note(PowMod(m, a, uint64(n), b))
	note(PowMod(m, a, 0, b))
	note(PowMod(m, a, 1, b))
	note(Wrap(m, a, n))
	note(Interpolate(m, a, b))
	q, r, e := DivMod(m, a, b)
	list = append(list, answer{lists: [][]uint32{q, r}, e: e})
	v, e := Eval(m, a, uint32(n))
	return append(list, answer{value: v, e: e})
}

// arguments are lists of all kinds for the modulus m.
func arguments(r *rand.Rand, m uint32) [][]uint32 {
	list := [][]uint32{nil, {}, {0}, {1}, {m}, {m - 1}, {1, 0}, {0, 1}, {math.MaxUint32}, make([]uint32, 256), make([]uint32, 257), slices.Repeat([]uint32{m}, 300)}
	if m < 2 || m > top {
		return list
	}
	for _, n := range []int{3, 4, 255, 256, 257} {
		list = append(list, polynomial(r, m, n), slices.Repeat([]uint32{m - 1}, n))
	}
	return list
}

// P5.11, R1, R2, R3 and R6: any arguments are accepted and not changed, nothing stands beside an error, and a call gives the same again.
func TestRules(t *testing.T) {
	r := rand.New(rand.NewSource(65))
	for _, m := range append([]uint32{2, 4, 17, 65536, top - 1, top}, noModuli...) {
		list := arguments(r, m)
		for _, a := range list {
			for _, b := range list {
				keptA, keptB := slices.Clone(a), slices.Clone(b)
				for _, n := range []int{math.MinInt, -1, 0, 1, 2, 16, 256, 257, math.MaxInt} {
					checkRules(t, m, a, b, n)
				}
				if !slices.Equal(a, keptA) || !slices.Equal(b, keptB) {
					t.Fatalf("modulo %d: %v and %v were changed to %v and %v", m, keptA, keptB, a, b)
				}
			}
		}
	}
}

// checkRules calls every function twice; what the first calls returned is overwritten.
func checkRules(t *testing.T, m uint32, a, b []uint32, n int) {
	t.Helper()
	if len(b) > 20 && n != 2 && n != 256 {
		// Great powers modulo long polynomials take their time, and have a test of their own.
		return
	}
	first := answers(m, a, b, n)
	for i, c := range first {
		if c.e != api.OK && (c.value != 0 || len(slices.Concat(c.lists...)) > 0) {
			t.Fatalf("modulo %d, %v, %v, %d: result %d is %v", m, a, b, n, i, c)
		}
	}
	want := copies(first)
	overwrite(first)
	if again := copies(answers(m, a, b, n)); !reflect.DeepEqual(again, want) {
		t.Fatalf("modulo %d, %v, %v, %d: %v, then %v", m, a, b, n, want, again)
	}
}

// copies returns answers with lists of their own, none of which is nil.
func copies(list []answer) []answer {
	var result []answer
	for _, c := range list {
		own := answer{value: c.value, e: c.e}
		for _, a := range c.lists {
			own.lists = append(own.lists, append([]uint32{}, a...))
		}
		result = append(result, own)
	}
	return result
}

// overwrite changes all memory of the lists that were returned.
func overwrite(list []answer) {
	for _, c := range list {
		for _, a := range c.lists {
			full := a[:cap(a)]
			for i := range full {
				full[i] = math.MaxUint32
			}
		}
	}
}

// P5.11 and R3: a quotient and a rest share no memory, nor does a result that equals an argument.
func TestMemory(t *testing.T) {
	for _, b := range [][]uint32{{1}, {0, 1}, {1, 2, 3}, {1, 2, 3, 4, 5, 6}} {
		a := some{5, 6, 7, 8}
		q, r, _ := DivMod(17, a, b)
		wantQ, wantR := slices.Clone(q), slices.Clone(r)
		overwrite([]answer{{lists: [][]uint32{q}}})
		if !slices.Equal(r, wantR) {
			t.Errorf("DivMod by %v: the rest changes with the quotient", b)
		}
		q, r, _ = DivMod(17, a, b)
		overwrite([]answer{{lists: [][]uint32{r}}})
		if !slices.Equal(q, wantQ) {
			t.Errorf("DivMod by %v: the quotient changes with the rest", b)
		}
	}
	a, kept := some{3, 5, 1}, some{3, 5, 1}
	for _, f := range []func() ([]uint32, api.Errno){
		func() ([]uint32, api.Errno) { return Add(17, a, nil) },
		func() ([]uint32, api.Errno) { return Add(17, nil, a) },
		func() ([]uint32, api.Errno) { return Sub(17, a, nil) },
		func() ([]uint32, api.Errno) { return Mul(17, a, some{1}) },
		func() ([]uint32, api.Errno) { return Gcd(17, a, nil) },
		func() ([]uint32, api.Errno) { return Gcd(17, nil, a) },
		func() ([]uint32, api.Errno) { return PowMod(17, a, 1, some{0, 0, 0, 1}) },
		func() ([]uint32, api.Errno) { return Wrap(17, a, 3) },
		func() ([]uint32, api.Errno) { return Interpolate(17, some{0, 1, 2}, some{3, 9, 0}) },
	} {
		got, e := f()
		checkList(t, got, e, kept, "a result that equals its argument")
		overwrite([]answer{{lists: [][]uint32{got}}})
		if !slices.Equal(a, kept) {
			t.Fatalf("an argument was changed to %v", a)
		}
	}
}
