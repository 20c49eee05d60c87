package slots

import (
	"math"
	"math/big"
	"math/rand"
	"slices"
	"testing"

	"obscura/api"
)

// P8.2: the examples of the chapter.
func TestValuesOfTheChapter(t *testing.T) {
	s := made(t, 4, 17, 1)
	x, v := []int64{0, 1, 0, 0}, []int64{2, 8, -8, -2}
	got, e := s.Decode(x, 1)
	checkList(t, got, e, v, "Decode of x")
	got, e = s.Encode([]int64{1, 1, 1, 1}, 1)
	checkList(t, got, e, []int64{1, 0, 0, 0}, "Encode of 1 1 1 1")
	got, e = s.Encode(v, 1)
	checkList(t, got, e, x, "Encode of 2 8 -8 -2")
}

// P8.2: the polynomial x has the places as its values: the powers of the root with the exponents 3^j, then those with the exponents -3^j.
func TestPlaces(t *testing.T) {
	forEach(t, func(s *Slots, c setting, exponent int, r *rand.Rand) {
		want := make([]int64, c.n)
		for slot, z := range c.places {
			want[slot] = balanced(z, c.modulus(exponent))
		}
		x := unit(c.n, 1, 1)
		got, e := s.Decode(x, exponent)
		checkList(t, got, e, want, "Decode of x by (%d, %d, %d) for %d", c.n, c.p, c.r, exponent)
		got, e = s.Encode(want, exponent)
		checkList(t, got, e, x, "Encode of the places by (%d, %d, %d) for %d", c.n, c.p, c.r, exponent)
	})
}

// P8.2: the values at the places and the sums, by exact integers.
func TestValues(t *testing.T) {
	forEach(t, func(s *Slots, c setting, exponent int, r *rand.Rand) {
		m := c.modulus(exponent)
		for _, list := range c.lists(r, exponent) {
			v, e := s.Decode(list, exponent)
			checkList(t, v, e, exactDecode(list, c.places, m), "Decode of %v by (%d, %d, %d) for %d", list, c.n, c.p, c.r, exponent)
			back, e := s.Encode(v, exponent)
			checkList(t, back, e, list, "Encode of the vector of %v by (%d, %d, %d) for %d", list, c.n, c.p, c.r, exponent)
			a, e := s.Encode(list, exponent)
			checkList(t, exactDecode(a, c.places, m), e, list, "the vector of Encode of %v by (%d, %d, %d) for %d", list, c.n, c.p, c.r, exponent)
		}
		v := c.drawn(r, exponent)
		a, e := s.Encode(v, exponent)
		checkList(t, a, e, exactEncode(v, c.places, m), "Encode of %v by (%d, %d, %d) for %d", v, c.n, c.p, c.r, exponent)
	})
}

// P8.2: all lists of the dimension 4 and the prime 17.
func TestAllLists(t *testing.T) {
	s := made(t, 4, 17, 1)
	places := []int64{2, 8, 9, 15}
	list := make([]int64, 4)
	for k := range 17 * 17 * 17 * 17 {
		for i := range list {
			list[i] = int64(k%17) - 8
			k /= 17
		}
		want := make([]int64, 4)
		for slot, z := range places {
			value := ((list[3]*z+list[2])*z+list[1])*z + list[0]
			want[slot] = ((value+8)%17+17)%17 - 8
		}
		got, e := s.Decode(list, 1)
		checkList(t, got, e, want, "Decode of %v", list)
		got, e = s.Encode(want, 1)
		checkList(t, got, e, list, "Encode of %v", want)
	}
}

// P8.2: the bounds of balanced lists in every place: a list with them is one, a list with what is beyond them is none.
func TestBounds(t *testing.T) {
	forEach(t, func(s *Slots, c setting, exponent int, r *rand.Rand) {
		h := c.bound(exponent)
		for k := range c.n {
			for _, v := range []int64{h, -h} {
				list := unit(c.n, k, v)
				got, e := s.Decode(list, exponent)
				checkList(t, got, e, exactDecode(list, c.places, c.modulus(exponent)), "Decode of %v by (%d, %d, %d) for %d", list, c.n, c.p, c.r, exponent)
				must[[]int64](t)(s.Encode(list, exponent))
			}
			for _, v := range []int64{h + 1, -h - 1, 2*h + 1, 1<<32 + 1, -1 << 32, math.MinInt64, math.MinInt64 + 1, math.MaxInt64} {
				list := unit(c.n, k, v)
				checkNoList(t, s, list, exponent)
			}
		}
	})
}

// checkNoList tests that neither method takes a list for an exponent.
func checkNoList(t *testing.T, s *Slots, list []int64, exponent int) {
	t.Helper()
	got, e := s.Decode(list, exponent)
	checkError(t, got, e, api.ErrArg, "Decode of %v for %d", list, exponent)
	got, e = s.Encode(list, exponent)
	checkError(t, got, e, api.ErrArg, "Encode of %v for %d", list, exponent)
}

// P8.2: lists of other lengths, also of those of other dimensions.
func TestLengths(t *testing.T) {
	forAll(t, func(s *Slots, c setting, r *rand.Rand) {
		for _, length := range []int{0, 1, 2, 4, 8, 16, 32, 64, 1000, c.n - 1, c.n + 1} {
			if length != c.n {
				checkNoList(t, s, make([]int64, length), 1)
			}
		}
		checkNoList(t, s, nil, 1)
	})
}

// P8.2: what is no exponent, also where the list would be balanced for it.
func TestNoExponents(t *testing.T) {
	forAll(t, func(s *Slots, c setting, r *rand.Rand) {
		for _, exponent := range slices.Concat(noExponents, []int{c.r + 1, c.r + 2}) {
			checkNoList(t, s, make([]int64, c.n), exponent)
			checkNoList(t, s, c.drawn(r, c.r), exponent)
			checkNoList(t, s, nil, exponent)
		}
	})
}

// P8.6: the vector for a lower exponent is the one for a higher exponent, modulo the lower power, and the same holds for the polynomial.
func TestLowerExponents(t *testing.T) {
	forEach(t, func(s *Slots, c setting, high int, r *rand.Rand) {
		for low := 1; low < high; low++ {
			m := c.modulus(low)
			for _, list := range [][]int64{c.drawn(r, high), c.drawn(r, low)} {
				v := must[[]int64](t)(s.Decode(list, high))
				got, e := s.Decode(lowered(list, m), low)
				checkList(t, got, e, lowered(v, m), "Decode of %v by (%d, %d, %d) for %d and %d", list, c.n, c.p, c.r, high, low)
				a := must[[]int64](t)(s.Encode(list, high))
				got, e = s.Encode(lowered(list, m), low)
				checkList(t, got, e, lowered(a, m), "Encode of %v by (%d, %d, %d) for %d and %d", list, c.n, c.p, c.r, high, low)
			}
		}
	})
}

// P8.6: slots of a lower power give the same for their exponents.
func TestLowerPowers(t *testing.T) {
	forEach(t, func(s *Slots, c setting, exponent int, r *rand.Rand) {
		other := made(t, c.n, c.p, exponent)
		list := c.drawn(r, exponent)
		want := must[[]int64](t)(s.Decode(list, exponent))
		got, e := other.Decode(list, exponent)
		checkList(t, got, e, want, "Decode of %v by (%d, %d, %d)", list, c.n, c.p, exponent)
		want = must[[]int64](t)(s.Encode(list, exponent))
		got, e = other.Encode(list, exponent)
		checkList(t, got, e, want, "Encode of %v by (%d, %d, %d)", list, c.n, c.p, exponent)
	})
}

// P8.4: the vectors of sums and products are the sums and products of the vectors.
func TestSumsAndProducts(t *testing.T) {
	plus := func(z, x, y *big.Int) *big.Int { return z.Add(x, y) }
	times := func(z, x, y *big.Int) *big.Int { return z.Mul(x, y) }
	forEach(t, func(s *Slots, c setting, exponent int, r *rand.Rand) {
		m := c.modulus(exponent)
		for range 4 {
			a, b := c.drawn(r, exponent), c.drawn(r, exponent)
			v, w := must[[]int64](t)(s.Decode(a, exponent)), must[[]int64](t)(s.Decode(b, exponent))
			got, e := s.Decode(pairwise(a, b, m, plus), exponent)
			checkList(t, got, e, pairwise(v, w, m, plus), "the sum of %v and %v by (%d, %d, %d) for %d", a, b, c.n, c.p, c.r, exponent)
			got, e = s.Decode(exactProduct(a, b, m), exponent)
			checkList(t, got, e, pairwise(v, w, m, times), "the product of %v and %v by (%d, %d, %d) for %d", a, b, c.n, c.p, c.r, exponent)
		}
	})
}

// P8.4: a number in all slots is that number as a constant polynomial.
func TestConstants(t *testing.T) {
	forEach(t, func(s *Slots, c setting, exponent int, r *rand.Rand) {
		h := c.bound(exponent)
		for _, v := range []int64{0, 1, -1, 2, -2, h, -h, h - 1, r.Int63n(h + 1)} {
			constant, all := unit(c.n, 0, v), slices.Repeat([]int64{v}, c.n)
			got, e := s.Decode(constant, exponent)
			checkList(t, got, e, all, "Decode of %d by (%d, %d, %d) for %d", v, c.n, c.p, c.r, exponent)
			got, e = s.Encode(all, exponent)
			checkList(t, got, e, constant, "Encode of %d in all slots by (%d, %d, %d) for %d", v, c.n, c.p, c.r, exponent)
		}
	})
}
