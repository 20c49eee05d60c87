package ring

import (
	"math"
	"math/big"
	"math/rand"
	"slices"
	"testing"

	"obscura/api"
)

// integers are lists of integers for a shape: small ones, the ends of the range, and some others.
func (s shape) integers(r *rand.Rand) [][]int64 {
	list := [][]int64{make([]int64, s.p.N)}
	for _, v := range []int64{1, -1, 20, -top, top + 1, 1 << 32, math.MaxInt64, math.MinInt64} {
		list = append(list, slices.Repeat([]int64{v}, s.p.N), s.unit(0, v), s.unit(s.p.N-1, v))
	}
	for range 4 {
		random := make([]int64, s.p.N)
		for i := range random {
			random[i] = int64(r.Uint64()) >> r.Intn(64)
		}
		list = append(list, random)
	}
	return list
}

// P9.2: the example, and the same at other levels.
func TestFromIntsOfTheChapter(t *testing.T) {
	l := []int64{1, -1, 20, 0}
	got, e := FromInts(ofChapter, 2, false, l)
	checkElem(t, got, e, api.Elem{Level: 2, Rows: [][]uint32{{1, 16, 3, 0}, {1, 96, 20, 0}}}, "FromInts at the level 2")
	got, e = FromInts(ofChapter, 1, true, l)
	checkElem(t, got, e, api.Elem{Level: 1, Special: true, Rows: [][]uint32{{1, 16, 3, 0}, {1, 40, 20, 0}}}, "FromInts at the level 1 with the special modulus")
}

// P9.2: any integers, for all shapes.
func TestFromInts(t *testing.T) {
	forAll(t, func(s shape, r *rand.Rand) {
		for _, l := range s.integers(r) {
			got, e := FromInts(s.p, s.level, s.special, l)
			checkElem(t, got, e, s.ofInts(l...), "FromInts(%v) for %v", l, s)
		}
	})
}

// P9.2: levels that there are not, a special modulus that there is not, and lists of another length.
func TestFromIntsRefuses(t *testing.T) {
	for _, p := range rings() {
		refuse := func(level int, special bool, l []int64) {
			t.Helper()
			got, e := FromInts(p, level, special, l)
			checkNone(t, got, e, "FromInts(%d, %t, %v) for %v", level, special, l, p)
		}
		good := make([]int64, p.N)
		for _, level := range []int{math.MinInt, -1, 0, len(p.Chain) + 1, len(p.Chain) + 2, 1<<32 + 1, math.MaxInt} {
			refuse(level, false, good)
			refuse(level, true, good)
		}
		for level := 1; level <= len(p.Chain); level++ {
			if p.Special == 0 {
				refuse(level, true, good)
			}
			for _, length := range []int{0, 1, 4, 8, 16, 32, p.N - 1, p.N + 1, 1000} {
				if length != p.N {
					refuse(level, false, make([]int64, length))
					refuse(level, p.Special != 0, make([]int64, length))
				}
			}
			refuse(level, false, nil)
		}
	}
}

// P9.3: the example.
func TestMulOfTheChapter(t *testing.T) {
	s := shape{ofChapter, 1, false}
	got, e := Mul(ofChapter, s.ofInts(0, 1, 0, 0), s.ofInts(0, 0, 0, 1))
	checkElem(t, got, e, api.Elem{Level: 1, Rows: [][]uint32{{16, 0, 0, 0}}}, "Mul of x and x^3")
}

// P9.3: sums, differences, products and negatives, row by row, for all pairs of elements of all shapes.
func TestArithmetic(t *testing.T) {
	plus := func(rows ...[]*big.Int) []*big.Int { return termwise(rows[0], rows[1], (*big.Int).Add) }
	minus := func(rows ...[]*big.Int) []*big.Int { return termwise(rows[0], rows[1], (*big.Int).Sub) }
	times := func(rows ...[]*big.Int) []*big.Int { return exactProduct(rows[0], rows[1]) }
	forAll(t, func(s shape, r *rand.Rand) {
		list := s.elements(r)
		for _, a := range list {
			for _, b := range list {
				got, e := Add(s.p, a, b)
				checkElem(t, got, e, s.rowwise(plus, a, b), "Add for %v of %v and %v", s.p, a, b)
				got, e = Sub(s.p, a, b)
				checkElem(t, got, e, s.rowwise(minus, a, b), "Sub for %v of %v and %v", s.p, a, b)
			}
			for _, b := range slices.Concat(list[1:6], list[len(list)-2:]) {
				got, e := Mul(s.p, a, b)
				checkElem(t, got, e, s.rowwise(times, a, b), "Mul for %v of %v and %v", s.p, a, b)
			}
			got, e := Neg(s.p, a)
			checkElem(t, got, e, s.rowwise(minus, list[0], a), "Neg for %v of %v", s.p, a)
		}
	})
}

// termwise applies an operation to the terms of two lists.
func termwise(a, b []*big.Int, f func(z, x, y *big.Int) *big.Int) []*big.Int {
	var list []*big.Int
	for i := range a {
		list = append(list, f(new(big.Int), a[i], b[i]))
	}
	return list
}

// P9.3: all products of two powers of x, with the sign that x^N = -1 gives.
func TestProductsOfPowers(t *testing.T) {
	for _, n := range dimensions {
		s := shape{api.Params{N: n, Chain: []uint32{top, 9}, Special: 17}, 2, true}
		for i := range n {
			for j := range n {
				want := s.unit((i+j)%n, 35)
				if i+j >= n {
					want[(i+j)%n] = -35
				}
				got, e := Mul(s.p, s.ofInts(s.unit(i, 5)...), s.ofInts(s.unit(j, 7)...))
				checkElem(t, got, e, s.ofInts(want...), "5 x^%d times 7 x^%d for N = %d", i, j, n)
			}
		}
	}
}

// P9.3: any integers as factors.
func TestMulInt(t *testing.T) {
	forAll(t, func(s shape, r *rand.Rand) {
		list := s.elements(r)
		for _, n := range []int64{0, 1, -1, 2, 3, 17, -97, top - 1, top, top + 1, -top, 1 << 32, 1<<32 + 1, math.MaxInt64, math.MinInt64, math.MinInt64 + 1, int64(r.Uint64())} {
			times := func(rows ...[]*big.Int) []*big.Int {
				return exactProduct(rows[0], exact(s.unit(0, n)))
			}
			for _, a := range slices.Concat(list[:4], list[len(list)-2:]) {
				got, e := MulInt(s.p, a, n)
				checkElem(t, got, e, s.rowwise(times, a), "MulInt for %v of %v by %d", s.p, a, n)
			}
		}
	})
}

// P9.3: elements with different levels, or of which only one has the special modulus, have no sum, difference or product.
func TestDifferentShapes(t *testing.T) {
	for _, p := range rings() {
		list := shapes(p)
		r := rand.New(rand.NewSource(92))
		for i, s := range list {
			for j, other := range list {
				if i != j {
					checkNoPair(t, p, s.drawn(r), other.drawn(r))
				}
			}
		}
	}
	// They have equally many rows, whose residues would fit.
	a, b := shape{ofChapter, 1, true}.ofInts(1, 2, 3, 4), shape{ofChapter, 2, false}.ofInts(1, 2, 3, 4)
	checkNoPair(t, ofChapter, a, b)
}
