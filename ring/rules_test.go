package ring

import (
	"math"
	"math/rand"
	"reflect"
	"slices"
	"testing"

	"obscura/api"
)

// checkSame tests that Same reports it in both orders.
func checkSame(t *testing.T, a, b api.Elem, want bool) {
	t.Helper()
	if Same(a, b) != want || Same(b, a) != want {
		t.Errorf("Same of %v and %v is not %t", a, b, want)
	}
}

// P9.7: elements that are valid for no parameters are equal or not as others are.
func TestSameOfAny(t *testing.T) {
	list := []api.Elem{
		{},
		{Level: 1},
		{Level: -1},
		{Level: math.MaxInt},
		{Special: true},
		{Level: 1, Special: true},
		{Rows: [][]uint32{nil}},
		{Rows: [][]uint32{nil, nil}},
		{Rows: [][]uint32{{0}}},
		{Rows: [][]uint32{{0}, nil}},
		{Rows: [][]uint32{nil, {0}}},
		{Rows: [][]uint32{{0, 0}}},
		{Rows: [][]uint32{{0, 1}}},
		{Rows: [][]uint32{{1, 0}}},
		{Rows: [][]uint32{{0}, {1}}},
		{Rows: [][]uint32{{0, math.MaxUint32}}},
		{Level: 2, Rows: [][]uint32{{0}, {1}}},
		{Level: 1, Special: true, Rows: [][]uint32{{0}, {1}}},
		{Level: 1, Rows: [][]uint32{{0}, {1}}},
	}
	for i, a := range list {
		for j, b := range list {
			checkSame(t, a, b, i == j)
			checkSame(t, a, copied(b), i == j)
		}
	}
}

// P9.7: nil and empty lists are equal, as rows and as lists of rows.
func TestSameOfEmpty(t *testing.T) {
	checkSame(t, api.Elem{}, api.Elem{Rows: [][]uint32{}}, true)
	checkSame(t, api.Elem{Level: 3, Special: true}, api.Elem{Level: 3, Special: true, Rows: [][]uint32{}}, true)
	checkSame(t, api.Elem{Rows: [][]uint32{nil}}, api.Elem{Rows: [][]uint32{{}}}, true)
	checkSame(t, api.Elem{Rows: [][]uint32{nil, {}, {5}}}, api.Elem{Rows: [][]uint32{{}, nil, {5}}}, true)
	checkSame(t, api.Elem{}, api.Elem{Rows: [][]uint32{{}}}, false)
	checkSame(t, api.Elem{Rows: [][]uint32{}}, api.Elem{Rows: [][]uint32{nil}}, false)
}

// P9.7: each residue, the level, and the special modulus count.
func TestSame(t *testing.T) {
	forAll(t, func(s shape, r *rand.Rand) {
		a := s.drawn(r)
		checkSame(t, a, a, true)
		checkSame(t, a, copied(a), true)
		differ := func(change func(b *api.Elem)) {
			t.Helper()
			b := copied(a)
			change(&b)
			checkSame(t, a, b, false)
		}
		differ(func(b *api.Elem) { b.Level++ })
		differ(func(b *api.Elem) { b.Special = !b.Special })
		differ(func(b *api.Elem) { b.Rows = b.Rows[1:] })
		differ(func(b *api.Elem) { b.Rows = append(b.Rows, nil) })
		for i := range a.Rows {
			differ(func(b *api.Elem) { b.Rows[i] = b.Rows[i][1:] })
			for j := range a.Rows[i] {
				differ(func(b *api.Elem) { b.Rows[i][j]++ })
			}
		}
	})
}

// all calls every function but Same.
func all(p api.Params, a, b api.Elem) []answer {
	list := slices.Concat(alone(p, a), pairs(p, a, b))
	for _, l := range [][]int64{nil, {1, -2, 3, -4}, {1, -1, 2, -2, math.MaxInt64, math.MinInt64, 0, 7}, make([]int64, 33)} {
		got, e := FromInts(p, a.Level, a.Special, l)
		list = append(list, answer{name: "FromInts", elem: got, e: e})
	}
	for _, k := range []int{math.MinInt, -1, 0, 1, 2, 7, 63, 64, math.MaxInt} {
		got, e := Auto(p, a, k)
		list = append(list, answer{name: "Auto", elem: got, e: e})
		got, e = Restrict(p, a, k, k > 1)
		list = append(list, answer{name: "Restrict", elem: got, e: e})
	}
	return list
}

// arguments are elements of all kinds, most of which are valid for no parameters or for few.
func arguments() []api.Elem {
	list := []api.Elem{{}, {Level: 1}, {Level: math.MaxInt, Special: true}, {Level: math.MinInt}, {Rows: [][]uint32{nil, {1}}}, {Level: 1, Rows: make([][]uint32, 1000)}}
	for _, n := range dimensions {
		for _, c := range []uint32{0, 1, 2, 96, math.MaxUint32} {
			row := slices.Repeat([]uint32{c}, n)
			// The rows of an argument may be one list.
			list = append(list, api.Elem{Level: 1, Rows: [][]uint32{row}}, api.Elem{Level: 1, Special: true, Rows: [][]uint32{row, row}}, api.Elem{Level: 2, Rows: [][]uint32{row, row}})
		}
	}
	return list
}

// parameters are those of all rings, and some that are not valid.
func parameters() []api.Params {
	return append(rings(), api.Params{}, api.Params{N: math.MinInt}, api.Params{N: 4}, api.Params{N: 4, Special: 3}, api.Params{N: math.MaxInt, Chain: make([]uint32, 1000), Special: math.MaxUint32}, api.Params{N: 8, Chain: []uint32{0}}, api.Params{N: 8, Chain: []uint32{17, 17}})
}

// overwrite changes all memory of the lists of an answer.
func (c answer) overwrite() {
	for _, row := range c.elem.Rows {
		full := row[:cap(row)]
		for i := range full {
			full[i] = math.MaxUint32
		}
	}
	clear(c.elem.Rows[:cap(c.elem.Rows)])
	clear(c.wides[:cap(c.wides)])
}

// checkRules calls every function twice.
func checkRules(t *testing.T, p api.Params, a, b api.Elem) {
	t.Helper()
	chain, first, second := slices.Clone(p.Chain), copied(a), copied(b)
	var want []answer
	given := all(p, a, b)
	for _, c := range given {
		if c.e != api.OK && !c.empty() {
			t.Fatalf("%s for %v of %v and %v: %v", c.name, p, a, b, c)
		}
		want = append(want, answer{c.name, copied(c.elem), slices.Clone(c.wides), c.norm, c.e})
	}
	for _, c := range given {
		c.overwrite()
	}
	if !slices.Equal(p.Chain, chain) || !reflect.DeepEqual(a, first) || !reflect.DeepEqual(b, second) {
		t.Fatalf("%v, %v and %v were changed to %v, %v and %v", chain, first, second, p.Chain, a, b)
	}
	if again := all(p, a, b); !reflect.DeepEqual(again, want) {
		t.Fatalf("for %v of %v and %v: %v, then %v", p, a, b, want, again)
	}
}

// P9.11, R1, R2 and R3: any arguments are accepted and not changed, nothing stands beside an error, and a call gives the same again, though what the first one returned is overwritten.
func TestRules(t *testing.T) {
	r := rand.New(rand.NewSource(94))
	for _, p := range parameters() {
		for _, a := range arguments() {
			checkRules(t, p, a, arguments()[r.Intn(len(arguments()))])
			checkRules(t, p, a, a)
		}
	}
	forAll(t, func(s shape, r *rand.Rand) {
		a, b := s.drawn(r), s.drawn(r)
		checkRules(t, s.p, a, b)
		checkRules(t, s.p, a, a)
		checkRules(t, s.p, a, arguments()[r.Intn(len(arguments()))])
	})
}

// P9.11 and R3: results that equal an argument are new memory, and no two rows of a result share memory.
func TestMemory(t *testing.T) {
	forAll(t, func(s shape, r *rand.Rand) {
		a, zero, one := s.drawn(r), s.ofInts(s.unit(0, 0)...), s.ofInts(s.unit(0, 1)...)
		kept := copied(a)
		elem := must[api.Elem](t)
		for i, got := range []api.Elem{
			elem(Add(s.p, a, zero)), elem(Add(s.p, zero, a)), elem(Sub(s.p, a, zero)), elem(Mul(s.p, a, one)), elem(Mul(s.p, one, a)),
			elem(MulInt(s.p, a, 1)), elem(Auto(s.p, a, 1)), elem(Restrict(s.p, a, s.level, s.special)),
		} {
			checkElem(t, got, api.OK, kept, "call %d for %v", i, s)
			want := copied(got)
			for j, row := range got.Rows {
				full := row[:cap(row)]
				for k := range full {
					full[k] = math.MaxUint32
				}
				want.Rows[j] = row
				checkElem(t, got, api.OK, want, "call %d for %v, row %d overwritten", i, s, j)
			}
			clear(got.Rows)
			checkElem(t, a, api.OK, kept, "the argument of call %d for %v", i, s)
		}
	})
}

// The rows of an argument may be one list, also for both factors.
func TestSharedRows(t *testing.T) {
	row := []uint32{1, 16, 3, 0}
	a := api.Elem{Level: 2, Special: true, Rows: [][]uint32{row, row, row}}
	for _, o := range operations {
		want := must[api.Elem](t)(o.call(ofChapter, copied(a), copied(a)))
		got, e := o.call(ofChapter, a, a)
		checkElem(t, got, e, want, "%s of shared rows", o.name)
	}
}
