package slots

import (
	"math"
	"math/big"
	"math/rand"
	"slices"
	"testing"

	"obscura/api"
)

// turns are numbers of all kinds; those at the ends of the range are 0 and -1, and 0 and 1, modulo each half dimension.
var turns = []int{math.MinInt, math.MinInt + 1, math.MaxInt, math.MaxInt - 1, -1 << 32, 1 << 32, 1<<32 + 3, -1<<32 - 3, 1000003, -1000003}

// exactPower returns 3^turn modulo 2 n, the turn taken modulo n/2, and 2 n minus that if swap is true.
func exactPower(n, turn int, swap bool) int {
	exponent := new(big.Int).Mod(big.NewInt(int64(turn)), big.NewInt(int64(n/2)))
	k := int(exponent.Exp(big.NewInt(3), exponent, big.NewInt(int64(2*n))).Int64())
	if swap {
		return 2*n - k
	}
	return k
}

// P8.3: the examples of the chapter.
func TestMovesOfTheChapter(t *testing.T) {
	s := made(t, 4, 17, 1)
	k, e := s.Power(1, false)
	checkNumber(t, k, e, 3, "Power(1, false)")
	k, e = s.Power(0, true)
	checkNumber(t, k, e, 7, "Power(0, true)")
	k, e = s.Power(-1, true)
	checkNumber(t, k, e, 5, "Power(-1, true)")
	l, e := s.Moves(3)
	checkList(t, l, e, []int{1, 0, 3, 2}, "Moves(3)")
	l, e = s.Moves(7)
	checkList(t, l, e, []int{2, 3, 0, 1}, "Moves(7)")
	l, e = s.Moves(2)
	checkError(t, l, e, api.ErrArg, "Moves(2)")
}

// P8.3: all small turns and some great ones, to both sides.
func TestPowerOfThree(t *testing.T) {
	forAll(t, func(s *Slots, c setting, r *rand.Rand) {
		check := func(turn int) {
			t.Helper()
			for _, swap := range []bool{false, true} {
				k, e := s.Power(turn, swap)
				checkNumber(t, k, e, exactPower(c.n, turn, swap), "Power(%d, %t) by (%d, %d, %d)", turn, swap, c.n, c.p, c.r)
			}
		}
		for turn := -2 * c.n; turn <= 2*c.n; turn++ {
			check(turn)
		}
		for _, turn := range turns {
			check(turn)
		}
	})
}

// P8.3: the powers are all odd numbers below 2 n, each of them once.
func TestAllAutomorphisms(t *testing.T) {
	for _, n := range dimensions {
		s := made(t, n, 193, 1)
		found := map[int]bool{}
		for turn := range n / 2 {
			for _, swap := range []bool{false, true} {
				k := must[int](t)(s.Power(turn, swap))
				if k < 1 || k >= 2*n || k%2 == 0 || found[k] {
					t.Errorf("Power(%d, %t) for %d: %d", turn, swap, n, k)
				}
				found[k] = true
			}
		}
	}
}

// P8.3: the place of the slot Moves(k)(j) is the power with the exponent k of that of slot j, and the vector of a(x^k) has there what it should.
func TestMoves(t *testing.T) {
	forAll(t, func(s *Slots, c setting, r *rand.Rand) {
		m := big.NewInt(c.modulus(c.r))
		for k := 1; k < 2*c.n; k += 2 {
			moves, e := s.Moves(k)
			want := make([]int, c.n)
			for j, z := range c.places {
				place := new(big.Int).Exp(z, big.NewInt(int64(k)), m)
				want[j] = slices.IndexFunc(c.places, func(z *big.Int) bool { return z.Cmp(place) == 0 })
			}
			checkList(t, moves, e, want, "Moves(%d) by (%d, %d, %d)", k, c.n, c.p, c.r)
			for exponent := 1; exponent <= c.r; exponent++ {
				a := c.drawn(r, exponent)
				v := must[[]int64](t)(s.Decode(a, exponent))
				got, e := s.Decode(substituted(a, k), exponent)
				checkList(t, got, e, moved(v, moves), "%v, automorphism %d, by (%d, %d, %d) for %d", a, k, c.n, c.p, c.r, exponent)
			}
		}
	})
}

// P8.3: numbers that are no automorphisms.
func TestMovesRefuses(t *testing.T) {
	forAll(t, func(s *Slots, c setting, r *rand.Rand) {
		refuse := func(k int) {
			t.Helper()
			l, e := s.Moves(k)
			checkError(t, l, e, api.ErrArg, "Moves(%d) by (%d, %d, %d)", k, c.n, c.p, c.r)
		}
		for k := -2 * c.n; k <= 4*c.n; k++ {
			if k%2 == 0 || k < 1 || k > 2*c.n {
				refuse(k)
			}
		}
		for _, k := range []int{math.MinInt, math.MinInt + 1, math.MinInt + 3, 1<<32 + 1, 1<<32 + 3, -1<<32 + 1, 1<<31 + 1, math.MaxInt, math.MaxInt - 1} {
			refuse(k)
		}
	})
}

// P8.5: the automorphism Power(i, false) moves the rows to the left by i, Power(i, true) also exchanges them, in either order.
func TestRows(t *testing.T) {
	forAll(t, func(s *Slots, c setting, r *rand.Rand) {
		half := c.n / 2
		for i := -c.n; i <= c.n; i++ {
			want, exchanged := make([]int, c.n), make([]int, c.n)
			for j := range half {
				from := (j + i + c.n) % half
				want[j], want[half+j] = from, half+from
				exchanged[j], exchanged[half+j] = half+from, from
			}
			got, e := s.Moves(must[int](t)(s.Power(i, false)))
			checkList(t, got, e, want, "Moves of Power(%d, false) by (%d, %d, %d)", i, c.n, c.p, c.r)
			got, e = s.Moves(must[int](t)(s.Power(i, true)))
			checkList(t, got, e, exchanged, "Moves of Power(%d, true) by (%d, %d, %d)", i, c.n, c.p, c.r)
		}
		v := c.drawn(r, c.r)
		a := must[[]int64](t)(s.Encode(v, c.r))
		for i := range half {
			left := slices.Concat(v[i:half], v[:i], v[half+i:], v[half:half+i])
			got, e := s.Decode(lowered(substituted(a, must[int](t)(s.Power(i, false))), c.modulus(c.r)), c.r)
			checkList(t, got, e, left, "%v, turned by %d, by (%d, %d, %d)", v, i, c.n, c.p, c.r)
		}
		got, e := s.Decode(substituted(a, must[int](t)(s.Power(0, true))), c.r)
		checkList(t, got, e, slices.Concat(v[half:], v[:half]), "%v, swapped, by (%d, %d, %d)", v, c.n, c.p, c.r)
	})
}

// P8.5: Moves of a product of automorphisms is the composition, and that of 1 leaves every slot where it is.
func TestCompositions(t *testing.T) {
	for _, n := range dimensions {
		s := made(t, n, 193, 2)
		moves := must[[]int](t)
		for k := 1; k < 2*n; k += 2 {
			first := moves(s.Moves(k))
			for l := 1; l < 2*n; l += 2 {
				second := moves(s.Moves(l))
				want := make([]int, n)
				for j := range want {
					want[j] = first[second[j]]
				}
				got, e := s.Moves(k * l % (2 * n))
				checkList(t, got, e, want, "Moves of the product of %d and %d for %d", k, l, n)
			}
		}
		for j, from := range moves(s.Moves(1)) {
			if from != j {
				t.Errorf("Moves(1) for %d has %d in slot %d", n, from, j)
			}
		}
	}
}
