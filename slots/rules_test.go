package slots

import (
	"math"
	"math/rand"
	"reflect"
	"slices"
	"testing"

	"obscura/api"
)

// answer is what a call returned.
type answer struct {
	list  []int64
	moves []int
	value int
	e     api.Errno
}

// empty reports whether there is nothing beside the error.
func (a answer) empty() bool { return len(a.list) == 0 && len(a.moves) == 0 && a.value == 0 }

// copied returns an answer with lists of its own.
func (a answer) copied() answer {
	return answer{slices.Clone(a.list), slices.Clone(a.moves), a.value, a.e}
}

// overwrite changes all memory of the lists of an answer.
func (a answer) overwrite() {
	for i := range a.list[:cap(a.list)] {
		a.list[:cap(a.list)][i] = math.MinInt64
	}
	for i := range a.moves[:cap(a.moves)] {
		a.moves[:cap(a.moves)][i] = math.MinInt
	}
}

// answers calls every method; k is an automorphism, and a turn.
func answers(s *Slots, list []int64, exponent, k int) []answer {
	v, e := s.Encode(list, exponent)
	result := []answer{{list: v, e: e}}
	v, e = s.Decode(list, exponent)
	result = append(result, answer{list: v, e: e})
	for _, swap := range []bool{false, true} {
		power, e := s.Power(k, swap)
		result = append(result, answer{value: power, e: e})
	}
	moves, e := s.Moves(k)
	return append(result, answer{moves: moves, e: e})
}

// arguments are lists of all kinds, most of which are valid for no slots or for few.
func arguments() [][]int64 {
	list := [][]int64{nil, {}, {0}, make([]int64, 33), make([]int64, 1000)}
	for _, n := range dimensions {
		for _, v := range []int64{0, 1, -8, 9, -top, math.MinInt64, math.MaxInt64} {
			list = append(list, slices.Repeat([]int64{v}, n))
		}
	}
	return list
}

var (
	someExponents = []int{math.MinInt, -1, 0, 1, 2, 7, 8, math.MaxInt}
	someTurns     = []int{math.MinInt, -3, 0, 1, 3, 7, 8, 9, 63, 64, 65, math.MaxInt}
)

// checkNil tests that each method of slots that New did not return is ErrNil, whatever the arguments are.
func checkNil(t *testing.T, what string, s *Slots) {
	t.Helper()
	for _, list := range arguments() {
		for _, exponent := range someExponents {
			for _, k := range someTurns {
				for i, c := range answers(s, list, exponent, k) {
					if c.e != api.ErrNil || !c.empty() {
						t.Fatalf("call %d of %s with %v, %d and %d: %v; want ErrNil", i, what, list, exponent, k, c)
					}
				}
			}
		}
	}
}

// P8.1 and R5: nil, zero values, and copies are no slots; ErrNil comes before ErrArg.
func TestNoSlots(t *testing.T) {
	checkNil(t, "nil", nil)
	checkNil(t, "a zero value", &Slots{})
	checkNil(t, "another zero value", new(Slots))
	for _, n := range dimensions {
		duplicate := *made(t, n, 193, 2)
		checkNil(t, "a copy", &duplicate)
	}
}

// P8.7, R1, R2 and R3: any arguments are accepted and not changed, nothing stands beside an error, and a call gives the same again, though what the first one returned is overwritten.
func TestRules(t *testing.T) {
	forAll(t, func(s *Slots, c setting, r *rand.Rand) {
		for _, list := range slices.Concat(arguments(), c.lists(r, 1)[:8], c.lists(r, c.r)[:8]) {
			for _, exponent := range someExponents {
				checkRules(t, s, list, exponent, someTurns[r.Intn(len(someTurns))])
			}
			checkRules(t, s, list, c.r, 1)
		}
	})
}

// checkRules calls every method twice.
func checkRules(t *testing.T, s *Slots, list []int64, exponent, k int) {
	t.Helper()
	kept := slices.Clone(list)
	var want []answer
	first := answers(s, list, exponent, k)
	for i, c := range first {
		if c.e != api.OK && !c.empty() {
			t.Fatalf("call %d with %v, %d and %d: %v", i, list, exponent, k, c)
		}
		want = append(want, c.copied())
	}
	for _, c := range first {
		c.overwrite()
	}
	if !slices.Equal(list, kept) {
		t.Fatalf("%v was changed to %v", kept, list)
	}
	if again := answers(s, list, exponent, k); !reflect.DeepEqual(again, want) {
		t.Fatalf("with %v, %d and %d: %v, then %v", list, exponent, k, want, again)
	}
}

// P8.7 and R3: the vector of zeros equals its argument, and is new memory.
func TestMemory(t *testing.T) {
	forEach(t, func(s *Slots, c setting, exponent int, r *rand.Rand) {
		zeros := make([]int64, c.n)
		for _, got := range [][]int64{must[[]int64](t)(s.Decode(zeros, exponent)), must[[]int64](t)(s.Encode(zeros, exponent))} {
			checkList(t, got, api.OK, make([]int64, c.n), "zeros by (%d, %d, %d) for %d", c.n, c.p, c.r, exponent)
			got[0] = 1
			if zeros[0] != 0 {
				t.Fatalf("a result of (%d, %d, %d) is its argument", c.n, c.p, c.r)
			}
		}
	})
}

// R6: the slots of the same numbers are different objects that give the same, whatever happens to others.
func TestIndependence(t *testing.T) {
	list := []int64{1, -2, 3, 8}
	one, other := made(t, 4, 17, 2), made(t, 4, 17, 2)
	want := answers(one, list, 2, 3)
	made(t, 4, 41, 1)
	made(t, 8, 17, 2)
	if got := answers(other, list, 2, 3); !reflect.DeepEqual(got, want) {
		t.Errorf("%v by some slots, %v by others", want, got)
	}
	*other = Slots{}
	checkNil(t, "slots that were overwritten", other)
	if got := answers(one, list, 2, 3); !reflect.DeepEqual(got, want) {
		t.Errorf("%v, then %v", want, got)
	}
}
