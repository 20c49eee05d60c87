package ring

import (
	"math"
	"math/big"
	"math/rand"
	"slices"
	"testing"

	"obscura/api"
	"obscura/wide"
)

// forPrimes calls a test for the shapes of prime moduli of all rings.
func forPrimes(t *testing.T, f func(s shape, r *rand.Rand)) {
	t.Helper()
	met := 0
	forAll(t, func(s shape, r *rand.Rand) {
		if s.ofPrimes() {
			met++
			f(s, r)
		}
	})
	if met < 80 {
		t.Errorf("the test meets %d shapes only", met)
	}
}

// checkWides tests the balanced coefficients of an element, and their norm.
func checkWides(t *testing.T, s shape, a api.Elem, want []*big.Int) {
	t.Helper()
	list, e := Wides(s.p, a)
	if e != api.OK || !slices.Equal(list, wides(want)) {
		t.Fatalf("Wides for %v of %v: %v, error %d; want %v", s.p, a, list, e, want)
	}
	n, e := Norm(s.p, a)
	if e != api.OK || n != wideOf(norm(want)) {
		t.Fatalf("Norm for %v of %v: %v, error %d; want %v", s.p, a, exactWide(n), e, norm(want))
	}
}

// P9.6: the examples, and a norm that a negative coefficient has.
func TestNormOfTheChapter(t *testing.T) {
	s := shape{ofChapter, 2, false}
	checkWides(t, s, api.Elem{Level: 2, Rows: [][]uint32{{1, 16, 3, 0}, {1, 96, 20, 0}}}, exact([]int64{1, -1, 20, 0}))
	checkWides(t, s, s.ofInts(1, -21, 20, 0), exact([]int64{1, -21, 20, 0}))
	checkWides(t, s, s.ofInts(0, 0, 0, 0), exact([]int64{0, 0, 0, 0}))
	checkWides(t, s, s.ofInts(824, -824, 825, -825), exact([]int64{824, -824, -824, 824}))
	checkWides(t, shape{ofChapter, 1, true}, api.Elem{Level: 1, Special: true, Rows: [][]uint32{{16, 1, 0, 8}, {40, 1, 0, 20}}}, exact([]int64{-1, 1, 0, 348}))
}

// P9.6: the balanced coefficients of elements of all shapes with prime moduli.
func TestWides(t *testing.T) {
	forPrimes(t, func(s shape, r *rand.Rand) {
		for _, a := range s.elements(r) {
			checkWides(t, s, a, s.balanced(a))
		}
	})
}

// P9.6: the ends of the range, which is half of the product to both sides, and what is beyond them.
func TestEndsOfTheRange(t *testing.T) {
	forPrimes(t, func(s shape, r *rand.Rand) {
		half := new(big.Int).Rsh(s.product(), 1)
		next := new(big.Int).Add(half, big.NewInt(1))
		for j := range s.p.N {
			for _, c := range []struct{ v, want *big.Int }{
				{half, half},
				{new(big.Int).Neg(half), new(big.Int).Neg(half)},
				{next, new(big.Int).Neg(half)},
				{new(big.Int).Neg(next), half},
			} {
				given, want := exact(make([]int64, s.p.N)), exact(make([]int64, s.p.N))
				given[j], want[j] = c.v, c.want
				checkWides(t, s, s.of(given), want)
			}
		}
	})
}

// P9.6: ErrArg just if a modulus of the element is not a prime, wherever it stands; other moduli of the parameters do not matter.
func TestPrimesAreRequired(t *testing.T) {
	met := map[bool]int{}
	check := func(s shape, a api.Elem) {
		t.Helper()
		met[s.ofPrimes()]++
		if s.ofPrimes() {
			checkWides(t, s, a, s.balanced(a))
			return
		}
		if list, e := Wides(s.p, a); len(list) != 0 || e != api.ErrArg {
			t.Fatalf("Wides for %v of %v: %v, error %d; want ErrArg", s.p, a, list, e)
		}
		if n, e := Norm(s.p, a); n != (api.Wide{}) || e != api.ErrArg {
			t.Fatalf("Norm for %v of %v: %v, error %d; want ErrArg", s.p, a, n, e)
		}
	}
	forAll(t, func(s shape, r *rand.Rand) { check(s, s.drawn(r)) })
	r := rand.New(rand.NewSource(93))
	for _, m := range []uint32{9, 15, 561, 2047, 1<<30 + 1, top - 2, 46337 * 46337} {
		for _, p := range []api.Params{
			{N: 4, Chain: []uint32{m, 17, 97}, Special: 41},
			{N: 4, Chain: []uint32{17, m, 97}, Special: 41},
			{N: 4, Chain: []uint32{17, 97, m}, Special: 41},
			{N: 4, Chain: []uint32{17, 97, 41}, Special: m},
		} {
			for _, s := range shapes(p) {
				check(s, s.drawn(r))
				check(s, s.ofInts(0, 0, 0, 0))
			}
		}
	}
	if met[false] < 50 || met[true] < 50 {
		t.Errorf("the test meets %d shapes of primes, and %d others", met[true], met[false])
	}
}

// P9.9: the norms of sums, products, and of elements under automorphisms.
func TestNorms(t *testing.T) {
	forPrimes(t, func(s shape, r *rand.Rand) {
		size := func(a api.Elem, e api.Errno) *big.Int {
			t.Helper()
			if e != api.OK {
				t.Fatalf("error %d for %v", e, s)
			}
			return exactWide(must[api.Wide](t)(Norm(s.p, a)))
		}
		for _, a := range s.sized(r) {
			for _, b := range s.sized(r) {
				x, y := size(a, api.OK), size(b, api.OK)
				if size(Add(s.p, a, b)).Cmp(new(big.Int).Add(x, y)) > 0 {
					t.Fatalf("the norm of the sum of %v and %v for %v", a, b, s.p)
				}
				product := size(Mul(s.p, a, b))
				most := new(big.Int).Mul(x, y)
				if product.Cmp(most.Mul(most, big.NewInt(int64(s.p.N)))) > 0 {
					t.Fatalf("the norm of the product of %v and %v for %v", a, b, s.p)
				}
				if product.Cmp(new(big.Int).Mul(absolute(s.balanced(a)), y)) > 0 || product.Cmp(new(big.Int).Mul(absolute(s.balanced(b)), x)) > 0 {
					t.Fatalf("the norm of the product of %v and %v for %v, by a sum", a, b, s.p)
				}
			}
			for k := 1; k < 2*s.p.N; k += 2 {
				if size(Auto(s.p, a, k)).Cmp(size(a, api.OK)) != 0 {
					t.Fatalf("the norm of %v under %d for %v", a, k, s.p)
				}
			}
		}
	})
}

// absolute returns the sum of the absolute values.
func absolute(list []*big.Int) *big.Int {
	sum := new(big.Int)
	for _, v := range list {
		sum.Add(sum, new(big.Int).Abs(v))
	}
	return sum
}

// sized are elements whose balanced coefficients are of several sizes, so that some products are not reduced.
func (s shape) sized(r *rand.Rand) []api.Elem {
	q := s.product()
	list := []api.Elem{s.ofInts(make([]int64, s.p.N)...), s.drawn(r)}
	for _, shift := range []int{q.BitLen() - 2, q.BitLen()/2 + 4, q.BitLen() - 4} {
		bound := new(big.Int).Add(new(big.Int).Rsh(q, uint(max(shift, 1))), big.NewInt(1))
		var coefficients []*big.Int
		for range s.p.N {
			v := new(big.Int).Rand(r, bound)
			coefficients = append(coefficients, v.Mul(v, big.NewInt(int64(1-2*r.Intn(2)))))
		}
		list = append(list, s.of(coefficients))
	}
	return list
}

// P9.10: the balanced coefficients of an element, where they fit in int64, are the integers of the element.
func TestIntsAndBack(t *testing.T) {
	met := 0
	forPrimes(t, func(s shape, r *rand.Rand) {
		for _, a := range append(s.elements(r), s.sized(r)...) {
			var l []int64
			for _, x := range must[[]api.Wide](t)(Wides(s.p, a)) {
				if v, e := wide.Int(x); e == api.OK {
					l = append(l, v)
				}
			}
			if len(l) == s.p.N {
				met++
				got, e := FromInts(s.p, s.level, s.special, l)
				checkElem(t, got, e, a, "FromInts(%v) for %v", l, s.p)
			}
		}
		half := new(big.Int).Rsh(s.product(), 1)
		for _, v := range []int64{0, 1, -1, 2, math.MaxInt64, math.MinInt64, top, -top} {
			if new(big.Int).Abs(big.NewInt(v)).Cmp(half) <= 0 {
				l := s.unit(s.p.N-1, v)
				checkWides(t, s, must[api.Elem](t)(FromInts(s.p, s.level, s.special, l)), exact(l))
			}
		}
	})
	if met < 1000 {
		t.Errorf("the test meets %d elements only", met)
	}
}
