package ring

import (
	"math"
	"math/big"
	"math/rand"
	"slices"
	"testing"

	"obscura/api"
)

// P9.4: the example.
func TestAutoOfTheChapter(t *testing.T) {
	s := shape{ofChapter, 1, false}
	got, e := Auto(ofChapter, s.ofInts(0, 1, 2, 3), 3)
	checkElem(t, got, e, api.Elem{Level: 1, Rows: [][]uint32{{0, 3, 15, 1}}}, "Auto by 3")
}

// P9.4: all automorphisms, for elements of all shapes.
func TestAuto(t *testing.T) {
	forAll(t, func(s shape, r *rand.Rand) {
		list := s.elements(r)
		for k := 1; k < 2*s.p.N; k += 2 {
			replaced := func(rows ...[]*big.Int) []*big.Int { return substituted(rows[0], k) }
			for _, a := range list[len(list)-5:] {
				got, e := Auto(s.p, a, k)
				checkElem(t, got, e, s.rowwise(replaced, a), "Auto for %v of %v by %d", s.p, a, k)
			}
		}
	})
}

// P9.4: each power of x under each automorphism, by the rule for one coefficient.
func TestAutoOfPowers(t *testing.T) {
	for _, n := range dimensions {
		s := shape{api.Params{N: n, Chain: []uint32{top, 9}, Special: 17}, 1, true}
		for k := 1; k < 2*n; k += 2 {
			for i := range n {
				to, v := i*k%(2*n), int64(5)
				if to >= n {
					to, v = to-n, -5
				}
				got, e := Auto(s.p, s.ofInts(s.unit(i, 5)...), k)
				checkElem(t, got, e, s.ofInts(s.unit(to, v)...), "5 x^%d under %d for N = %d", i, k, n)
			}
		}
	}
}

// P9.4: numbers that are no automorphisms.
func TestAutoRefuses(t *testing.T) {
	forAll(t, func(s shape, r *rand.Rand) {
		a, n := s.drawn(r), s.p.N
		refuse := func(k int) {
			t.Helper()
			got, e := Auto(s.p, a, k)
			checkNone(t, got, e, "Auto for %v by %d", s.p, k)
		}
		for k := -2 * n; k <= 4*n; k++ {
			if k%2 == 0 || k < 1 || k > 2*n-1 {
				refuse(k)
			}
		}
		for _, k := range []int{math.MinInt, math.MinInt + 1, -1<<32 + 1, 1<<31 + 1, 1<<32 + 1, 1<<32 + 3, math.MaxInt - 1, math.MaxInt} {
			refuse(k)
		}
	})
	// The dimension is tested before its double means anything.
	for _, n := range noDimensions {
		for _, k := range []int{math.MinInt, -1, 1, 3, math.MaxInt} {
			got, e := Auto(api.Params{N: n, Chain: []uint32{17}}, api.Elem{Level: 1, Rows: [][]uint32{{0, 0, 0, 0}}}, k)
			checkNone(t, got, e, "Auto for N = %d by %d", n, k)
		}
	}
}

// P9.5: the examples.
func TestRestrictOfTheChapter(t *testing.T) {
	a := shape{ofChapter, 2, false}.ofInts(1, -1, 20, 0)
	got, e := Restrict(ofChapter, a, 1, false)
	checkElem(t, got, e, api.Elem{Level: 1, Rows: [][]uint32{{1, 16, 3, 0}}}, "Restrict to the level 1")
	got, e = Restrict(ofChapter, a, 1, true)
	checkNone(t, got, e, "Restrict to the level 1 with the special modulus")
	a = shape{ofChapter, 2, true}.ofInts(1, -1, 20, 0)
	got, e = Restrict(ofChapter, a, 1, true)
	checkElem(t, got, e, api.Elem{Level: 1, Special: true, Rows: [][]uint32{{1, 16, 3, 0}, {1, 40, 20, 0}}}, "Restrict of an element with the special modulus")
}

// P9.5: each lower level, with and without the special modulus; the rows are those of the moduli, whatever the residues are.
func TestRestrict(t *testing.T) {
	forAll(t, func(s shape, r *rand.Rand) {
		a := s.drawn(r)
		for level := 1; level <= s.level; level++ {
			lower := api.Elem{Level: level, Rows: a.Rows[:level]}
			got, e := Restrict(s.p, a, level, false)
			checkElem(t, got, e, lower, "Restrict for %v of %v to the level %d", s.p, a, level)
			got, e = Restrict(s.p, a, level, true)
			if !s.special {
				checkNone(t, got, e, "Restrict for %v of %v to the level %d with the special modulus", s.p, a, level)
				continue
			}
			lower.Special, lower.Rows = true, slices.Concat(lower.Rows, a.Rows[s.level:])
			checkElem(t, got, e, lower, "Restrict for %v of %v to the level %d with the special modulus", s.p, a, level)
		}
	})
}

// P9.5: levels that are none, or above that of the element.
func TestRestrictRefuses(t *testing.T) {
	forAll(t, func(s shape, r *rand.Rand) {
		a := s.drawn(r)
		for _, level := range []int{math.MinInt, -1, 0, s.level + 1, len(s.p.Chain) + 1, 1<<32 + 1, math.MaxInt} {
			for _, special := range []bool{false, true} {
				got, e := Restrict(s.p, a, level, special)
				checkNone(t, got, e, "Restrict for %v of %v to the level %d, %t", s.p, a, level, special)
			}
		}
	})
}
