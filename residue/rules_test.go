package residue

import (
	"math"
	"math/big"
	"reflect"
	"slices"
	"testing"

	"obscura/api"
	"obscura/wide"
)

// checkNil tests that each method of a system that New did not return is ErrNil or zero, whatever the arguments are.
func checkNil(t *testing.T, what string, s *System) {
	t.Helper()
	good := system(t, 3, 5, 7)
	if l := s.Moduli(); len(l) != 0 {
		t.Errorf("Moduli of %s: %v", what, l)
	}
	if x := s.Product(); x != (api.Wide{}) {
		t.Errorf("Product of %s: %d", what, exact(x))
	}
	for _, x := range append(badForms(), wide.Of(0), wide.Of(-7)) {
		r, e := s.Split(x)
		checkError(t, r, e, api.ErrNil, "Split by %s", what)
	}
	for _, row := range [][]uint32{nil, {}, {1}, {1, 2, 3}, {9, 9, 9}, make([]uint32, 26)} {
		if x, e := s.Join(row); x != (api.Wide{}) || e != api.ErrNil {
			t.Errorf("Join by %s: %d, error %d", what, exact(x), e)
		}
		for _, to := range []*System{nil, {}, s, good} {
			r, e := s.Convert(row, to)
			checkError(t, r, e, api.ErrNil, "Convert by %s", what)
			r, e = good.Convert(row, s)
			checkError(t, r, e, api.ErrNil, "Convert(%v) to %s", row, what)
		}
		r, d, e := s.Drop(row)
		checkError(t, r, e, api.ErrNil, "Drop by %s", what)
		if d != 0 {
			t.Errorf("Drop by %s: d is %d", what, d)
		}
		for _, n := range []uint32{0, 1, 7, math.MaxUint32} {
			r, e = s.Scale(row, n)
			checkError(t, r, e, api.ErrNil, "Scale by %s", what)
		}
	}
}

// R5 and the promise at the head of the chapter: nil, zero values, and copies are no systems, for Convert also as its target; ErrNil comes before the other errors.
func TestNoSystem(t *testing.T) {
	checkNil(t, "nil", nil)
	checkNil(t, "a zero value", &System{})
	checkNil(t, "another zero value", new(System))
	duplicate := *system(t, 3, 5, 7)
	checkNil(t, "a copy", &duplicate)
}

// R2: a wrong factor comes before ErrDown, a wrong row before both.
func TestOrderOfErrors(t *testing.T) {
	s := system(t, 7)
	for _, n := range []uint32{0, 7, 14, 1 << 31, math.MaxUint32} {
		r, e := s.Scale([]uint32{3}, n)
		checkError(t, r, e, api.ErrArg, "Scale(3, %d) by 7", n)
	}
	for _, n := range []uint32{1, 2, 6, 8, top} {
		r, e := s.Scale([]uint32{3}, n)
		checkError(t, r, e, api.ErrDown, "Scale(3, %d) by 7", n)
		r, e = s.Scale([]uint32{7}, n)
		checkError(t, r, e, api.ErrArg, "Scale(7, %d) by 7", n)
		r, e = s.Scale(nil, n)
		checkError(t, r, e, api.ErrArg, "Scale of nothing, %d by 7", n)
	}
	r, _, e := s.Drop([]uint32{7})
	checkError(t, r, e, api.ErrArg, "Drop(7) by 7")
	r, _, e = s.Drop([]uint32{6})
	checkError(t, r, e, api.ErrDown, "Drop(6) by 7")
}

// results calls every method of a system.
func results(s, to *System, row []uint32) []any {
	var list []any
	note := func(values ...any) { list = append(list, values...) }
	note(s.Moduli(), s.Product())
	x, e := s.Join(row)
	note(x, e)
	split, e := s.Split(x)
	note(split, e)
	there, e := s.Convert(row, to)
	note(there, e)
	same, e := s.Convert(row, s)
	note(same, e)
	dropped, d, e := s.Drop(row)
	note(dropped, d, e)
	scaled, e := s.Scale(row, 17)
	note(scaled, e)
	return list
}

// overwrite sets the elements of all lists to a number that no result has.
func overwrite(list []any) {
	for _, v := range list {
		if l, ok := v.([]uint32); ok {
			full := l[:cap(l)]
			for i := range full {
				full[i] = math.MaxUint32
			}
		}
	}
}

// R3 and R6: results are new memory, arguments are neither changed nor kept, and a system gives the same again.
func TestMemory(t *testing.T) {
	for _, moduli := range allSystems(t) {
		given := slices.Clone(moduli)
		s, e := New(given)
		if e != api.OK {
			t.Fatalf("New(%v): error %d", moduli, e)
		}
		if !slices.Equal(given, moduli) {
			t.Errorf("New(%v) changed its argument to %v", moduli, given)
		}
		to := system(t, 11, 13, top)
		row := rowOf(big.NewInt(-1234567), moduli)
		want := results(s, to, row)
		first := results(s, to, row)
		overwrite(first)
		overwrite([]any{given})
		if again := results(s, to, row); !reflect.DeepEqual(again, want) {
			t.Errorf("%v: %v, then %v", moduli, want, again)
		}
		if !slices.Equal(row, rowOf(big.NewInt(-1234567), moduli)) {
			t.Errorf("%v: the row was changed to %v", moduli, row)
		}
	}
}

// R6: systems of the same primes are different objects that give the same.
func TestIndependence(t *testing.T) {
	a, b, to := system(t, 3, 5, 7), system(t, 3, 5, 7), system(t, 11)
	want := results(a, to, []uint32{1, 0, 6})
	*b = System{}
	checkNil(t, "a system that was overwritten", b)
	if got := results(a, to, []uint32{1, 0, 6}); !reflect.DeepEqual(got, want) {
		t.Errorf("%v, then %v", want, got)
	}
}
