package transform

import (
	"math"
	"math/rand"
	"reflect"
	"slices"
	"testing"

	"obscura/api"
)

// answer is what a call returned.
type answer struct {
	list []uint32
	e    api.Errno
}

// answers calls every method that has arguments.
func answers(s *Table, a, b []uint32) []answer {
	var list []answer
	note := func(got []uint32, e api.Errno) { list = append(list, answer{got, e}) }
	note(s.Forward(a))
	note(s.Inverse(a))
	note(s.Mul(a, b))
	note(s.Mul(b, a))
	note(s.Mul(a, a))
	return list
}

// arguments are lists of all kinds, most of which are valid for no table or for few.
func arguments() [][]uint32 {
	list := [][]uint32{nil, {}, {0}, {math.MaxUint32}, make([]uint32, 33), make([]uint32, 1000)}
	for _, n := range dimensions {
		list = append(list, make([]uint32, n), slices.Repeat([]uint32{1}, n), slices.Repeat([]uint32{5}, n), slices.Repeat([]uint32{top - 1}, n), slices.Repeat([]uint32{math.MaxUint32}, n))
	}
	return list
}

// checkNil tests that each method of a table that New did not return is ErrNil or zero, whatever the arguments are.
func checkNil(t *testing.T, what string, s *Table) {
	t.Helper()
	if psi := s.Root(); psi != 0 {
		t.Errorf("Root of %s: %d", what, psi)
	}
	for _, a := range arguments() {
		for _, b := range arguments() {
			for i, c := range answers(s, a, b) {
				checkError(t, c.list, c.e, api.ErrNil, "call %d of %s with %v and %v", i, what, a, b)
			}
		}
	}
}

// P6.1 and R5: nil, zero values, and copies are no tables; ErrNil comes before ErrArg.
func TestNoTable(t *testing.T) {
	checkNil(t, "nil", nil)
	checkNil(t, "a zero value", &Table{})
	checkNil(t, "another zero value", new(Table))
	for _, n := range dimensions {
		duplicate := *table(t, n, 193)
		checkNil(t, "a copy", &duplicate)
	}
}

// P6.5, R1, R2 and R3: any arguments are accepted and not changed, nothing stands beside an error, and a call gives the same again, though what the first ones returned is overwritten.
func TestRules(t *testing.T) {
	forAll(t, func(s *Table, n int, q uint32, r *rand.Rand) {
		psi := s.Root()
		list := slices.Concat(arguments(), lists(r, n, q)[:8])
		for _, a := range list {
			for _, b := range list {
				checkRules(t, s, a, b)
			}
		}
		if s.Root() != psi {
			t.Errorf("Root for %d and %d: %d, then %d", n, q, psi, s.Root())
		}
	})
}

// checkRules calls every method twice.
func checkRules(t *testing.T, s *Table, a, b []uint32) {
	t.Helper()
	keptA, keptB := slices.Clone(a), slices.Clone(b)
	first := answers(s, a, b)
	var want []answer
	for i, c := range first {
		if c.e != api.OK && len(c.list) > 0 {
			t.Fatalf("call %d with %v and %v: %v, error %d", i, a, b, c.list, c.e)
		}
		want = append(want, answer{slices.Clone(c.list), c.e})
	}
	for _, c := range first {
		full := c.list[:cap(c.list)]
		for i := range full {
			full[i] = math.MaxUint32
		}
	}
	if !slices.Equal(a, keptA) || !slices.Equal(b, keptB) {
		t.Fatalf("%v and %v were changed to %v and %v", keptA, keptB, a, b)
	}
	if again := answers(s, a, b); !reflect.DeepEqual(again, want) {
		t.Fatalf("with %v and %v: %v, then %v", a, b, want, again)
	}
}

// P6.5 and R3: a result that equals an argument is new memory.
func TestMemory(t *testing.T) {
	forAll(t, func(s *Table, n int, q uint32, r *rand.Rand) {
		a, one := drawn(r, n, q), unit(n, 0, 1)
		kept := slices.Clone(a)
		for _, got := range [][]uint32{must(t)(s.Mul(a, one)), must(t)(s.Mul(one, a))} {
			checkList(t, got, api.OK, kept, "a product with 1")
			clear(got)
			if !slices.Equal(a, kept) {
				t.Fatalf("%v was changed to %v", kept, a)
			}
		}
	})
}

// R6: the tables of a dimension and a prime are different objects that give the same, whatever happens to others.
func TestIndependence(t *testing.T) {
	a, b := []uint32{1, 2, 3, 4}, []uint32{16, 0, 5, 9}
	one, other := table(t, 4, 17), table(t, 4, 17)
	want := answers(one, a, b)
	table(t, 4, 41)
	table(t, 8, 17)
	if got := answers(other, a, b); !reflect.DeepEqual(got, want) {
		t.Errorf("%v by one table, %v by another", want, got)
	}
	*other = Table{}
	checkNil(t, "a table that was overwritten", other)
	if got := answers(one, a, b); !reflect.DeepEqual(got, want) || one.Root() != 2 {
		t.Errorf("%v, then %v", want, got)
	}
}
