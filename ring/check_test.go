package ring

import (
	"math"
	"math/rand"
	"slices"
	"testing"

	"obscura/api"
)

// checkRefused tests that all functions return ErrArg for an element that is not valid for the parameters, or for parameters that are not valid.
func checkRefused(t *testing.T, p api.Params, a api.Elem) {
	t.Helper()
	for _, c := range alone(p, a) {
		if c.e != api.ErrArg || !c.empty() {
			t.Fatalf("%s for %v of %v: %v; want ErrArg", c.name, p, a, c)
		}
	}
	checkNoPair(t, p, a, a)
}

// checkNoPair tests that all functions with two elements return ErrArg, whichever is the first one.
func checkNoPair(t *testing.T, p api.Params, a, b api.Elem) {
	t.Helper()
	for _, c := range slices.Concat(pairs(p, a, b), pairs(p, b, a)) {
		if c.e != api.ErrArg || !c.empty() {
			t.Fatalf("%s for %v of %v and %v: %v; want ErrArg", c.name, p, a, b, c)
		}
	}
}

// checkNoParams tests that parameters are refused by all functions, with the elements that they would have if they were valid, and with others.
func checkNoParams(t *testing.T, p api.Params) {
	t.Helper()
	p.Prime, p.Power, p.Weight, p.Err = 17, 1, 2, 2
	n := min(max(p.N, 0), 128)
	for level := range min(len(p.Chain), 26) + 1 {
		for _, special := range []bool{false, true} {
			a := api.Elem{Level: level, Special: special}
			for range level {
				a.Rows = append(a.Rows, make([]uint32, n))
			}
			if special {
				a.Rows = append(a.Rows, make([]uint32, n))
			}
			checkRefused(t, p, a)
			got, e := FromInts(p, level, special, make([]int64, n))
			checkNone(t, got, e, "FromInts for %v at the level %d", p, level)
		}
	}
	checkRefused(t, p, api.Elem{})
	got, e := FromInts(p, 1, false, make([]int64, 4))
	checkNone(t, got, e, "FromInts for %v", p)
}

// P9.1: all shapes of all rings, whose moduli need not be primes and whose other fields do not matter.
func TestCheck(t *testing.T) {
	forAll(t, func(s shape, r *rand.Rand) {
		for _, a := range s.elements(r) {
			if e := Check(s.p, a); e != api.OK {
				t.Fatalf("Check for %v of %v: error %d", s.p, a, e)
			}
		}
	})
}

// P9.1: the dimension.
func TestDimensions(t *testing.T) {
	zero := func(n int) api.Elem { return api.Elem{Level: 1, Rows: [][]uint32{make([]uint32, n)}} }
	for n := range 200 {
		p := api.Params{N: n, Chain: []uint32{17}}
		if slices.Contains(dimensions, n) {
			if e := Check(p, zero(n)); e != api.OK {
				t.Errorf("Check for N = %d: error %d", n, e)
			}
			continue
		}
		checkNoParams(t, p)
	}
	for _, n := range noDimensions {
		checkNoParams(t, api.Params{N: n, Chain: []uint32{17, 97}, Special: 41})
	}
}

// P9.1: each odd number from 3 to MaxMod may be in the chain or the special modulus, and no other.
func TestModuli(t *testing.T) {
	numbers := []uint32{1 << 16, 1<<16 + 1, 1 << 30, 1<<30 + 1, top - 3, top - 2, top - 1, top, top + 1, top + 2, top + 3, math.MaxUint32 - 2, math.MaxUint32 - 1, math.MaxUint32}
	for m := range uint32(40) {
		numbers = append(numbers, m)
	}
	for _, m := range numbers {
		inChain := api.Params{N: 4, Chain: []uint32{m}}
		special := api.Params{N: 4, Chain: []uint32{101}, Special: m}
		if m%2 == 0 || m < 3 || m > top {
			checkNoParams(t, inChain)
			for i := range 3 {
				chain := []uint32{101, 103, 107}
				chain[i] = m
				checkNoParams(t, api.Params{N: 4, Chain: chain, Special: 109})
			}
			if m != 0 {
				checkNoParams(t, special)
			}
			continue
		}
		for _, s := range slices.Concat(shapes(inChain), shapes(special)) {
			if e := Check(s.p, s.ofInts(1, -1, 2, 0)); e != api.OK {
				t.Errorf("Check for %v: error %d", s, e)
			}
		}
	}
}

// P9.1: from 1 to 24 numbers in the chain.
func TestLengthOfTheChain(t *testing.T) {
	checkNoParams(t, api.Params{N: 4})
	checkNoParams(t, api.Params{N: 4, Chain: []uint32{}, Special: 41})
	list := below(top, 100, false)
	for n := 1; n <= 99; n++ {
		for _, p := range []api.Params{{N: 4, Chain: list[1 : n+1]}, {N: 4, Chain: list[1 : n+1], Special: list[0]}} {
			if n > api.MaxPrimes {
				checkNoParams(t, p)
				continue
			}
			s := shape{p, n, p.Special != 0}
			if e := Check(p, s.ofInts(1, 2, -3, 4)); e != api.OK {
				t.Errorf("Check for a chain of %d: error %d", n, e)
			}
		}
	}
}

// P9.1: all numbers are different, whichever two are equal, and the special modulus is none of the chain.
func TestDifferentModuli(t *testing.T) {
	for _, length := range []int{2, 3, 24} {
		for i := range length {
			for j := range i {
				chain := below(top, length, false)
				chain[i] = chain[j]
				checkNoParams(t, api.Params{N: 4, Chain: chain})
			}
			chain := below(top, length, false)
			checkNoParams(t, api.Params{N: 4, Chain: chain, Special: chain[i]})
		}
	}
	checkNoParams(t, api.Params{N: 4, Chain: []uint32{17}, Special: 17})
}

// P9.1: parameters that are not valid are refused also where the element or the level does not use the wrong number.
func TestWrongNumbersBeyondTheElement(t *testing.T) {
	for _, p := range []api.Params{
		{N: 4, Chain: []uint32{17, 97, 17}, Special: 41},
		{N: 4, Chain: []uint32{17, 97, 4}, Special: 41},
		{N: 4, Chain: []uint32{17, 97, 0}, Special: 41},
		{N: 4, Chain: []uint32{17, 97}, Special: 1},
		{N: 4, Chain: []uint32{17, 97}, Special: 97},
	} {
		good := shape{ofChapter, 1, false}
		checkRefused(t, p, good.ofInts(1, 2, 3, 4))
		got, e := FromInts(p, 1, false, []int64{1, 2, 3, 4})
		checkNone(t, got, e, "FromInts for %v", p)
	}
}

// P9.1: levels that there are not, and a special modulus that there is not.
func TestNoLevels(t *testing.T) {
	forAll(t, func(s shape, r *rand.Rand) {
		a, length := s.drawn(r), len(s.p.Chain)
		for _, level := range []int{math.MinInt, -1, 0, s.level - 1, s.level + 1, length + 1, 1<<32 + s.level, math.MaxInt} {
			wrong := copied(a)
			wrong.Level = level
			checkRefused(t, s.p, wrong)
			checkNoPair(t, s.p, a, wrong)
		}
		turned := copied(a)
		turned.Special = !a.Special
		checkRefused(t, s.p, turned)
		if s.p.Special == 0 {
			turned.Rows = append(turned.Rows, make([]uint32, s.p.N))
			checkRefused(t, s.p, turned)
		}
	})
	checkRefused(t, ofChapter, api.Elem{})
	// With the row of the special modulus, the rows are too many for the level and too few for the next one.
	checkRefused(t, ofChapter, api.Elem{Level: 3, Rows: [][]uint32{{0, 0, 0, 0}, {0, 0, 0, 0}, {0, 0, 0, 0}}})
}

// P9.1: the number of rows, and that of the residues in each of them.
func TestNoRows(t *testing.T) {
	forAll(t, func(s shape, r *rand.Rand) {
		a := s.drawn(r)
		refuse := func(change func(wrong *api.Elem)) {
			t.Helper()
			wrong := copied(a)
			change(&wrong)
			checkRefused(t, s.p, wrong)
			checkNoPair(t, s.p, a, wrong)
		}
		refuse(func(wrong *api.Elem) { wrong.Rows = nil })
		refuse(func(wrong *api.Elem) { wrong.Rows = wrong.Rows[1:] })
		refuse(func(wrong *api.Elem) { wrong.Rows = wrong.Rows[:len(wrong.Rows)-1] })
		refuse(func(wrong *api.Elem) { wrong.Rows = append(wrong.Rows, make([]uint32, s.p.N)) })
		refuse(func(wrong *api.Elem) { wrong.Rows = append(wrong.Rows, nil) })
		for i := range a.Rows {
			refuse(func(wrong *api.Elem) { wrong.Rows[i] = nil })
			refuse(func(wrong *api.Elem) { wrong.Rows[i] = wrong.Rows[i][1:] })
			refuse(func(wrong *api.Elem) { wrong.Rows[i] = append(wrong.Rows[i], 0) })
			refuse(func(wrong *api.Elem) { wrong.Rows[i] = make([]uint32, 2*s.p.N) })
		}
	})
}

// P9.1: each residue is below its modulus, whatever the other moduli are.
func TestNoResidues(t *testing.T) {
	forAll(t, func(s shape, r *rand.Rand) {
		for i, m := range s.moduli() {
			for _, j := range []int{0, s.p.N / 2, s.p.N - 1} {
				a := s.drawn(r)
				a.Rows[i][j] = m - 1
				if e := Check(s.p, a); e != api.OK {
					t.Fatalf("Check for %v of %v: error %d", s.p, a, e)
				}
				for _, c := range []uint32{m, m + 1, 2 * m, math.MaxUint32} {
					wrong := copied(a)
					wrong.Rows[i][j] = c
					checkRefused(t, s.p, wrong)
					checkNoPair(t, s.p, a, wrong)
				}
			}
		}
	})
}
