package factor

import (
	"math"
	"reflect"
	"slices"
	"testing"

	"obscura/api"
)

// answer is what a call returned.
type answer struct {
	lists [][]uint32
	value int64
	e     api.Errno
}

// answers calls every function.
func answers(n int, p uint32, r int, a []int64, root uint32) []answer {
	d, e := Degree(n, p)
	list := []answer{{value: int64(d), e: e}}
	lists, e := Factors(n, p)
	list = append(list, answer{lists: lists, e: e})
	x, e := Root(n, p, r)
	list = append(list, answer{value: int64(x), e: e})
	x, e = Lift(a, p, r, root)
	return append(list, answer{value: int64(x), e: e})
}

// copies returns answers with lists of their own.
func copies(list []answer) []answer {
	var result []answer
	for _, c := range list {
		own := answer{value: c.value, e: c.e}
		for _, f := range c.lists {
			own.lists = append(own.lists, slices.Clone(f))
		}
		result = append(result, own)
	}
	return result
}

// overwrite changes all memory of lists that were returned.
func overwrite(lists ...[]uint32) {
	for _, f := range lists {
		full := f[:cap(f)]
		for i := range full {
			full[i] = math.MaxUint32
		}
	}
}

// P7.7, R1, R2, R3 and R6: any arguments are accepted and not changed, nothing stands beside an error, and a call gives the same again, though what the first ones returned is overwritten.
func TestRules(t *testing.T) {
	lists := [][]int64{nil, {}, {0}, {1}, {0, 1}, {-2, 0, 1}, {math.MinInt64, math.MaxInt64, 1}, {math.MinInt64, 1}, make([]int64, 256), make([]int64, 257)}
	for _, n := range append(dimensions, math.MinInt, 0, 3, 64, math.MaxInt) {
		for _, p := range []uint32{0, 1, 2, 3, 5, 17, 193, 65521, 65535, 65536, 65537, top, math.MaxUint32} {
			for _, r := range []int{math.MinInt, 0, 1, 2, 7, 19, math.MaxInt} {
				for _, a := range lists {
					checkRules(t, n, p, r, a)
				}
			}
		}
	}
}

// checkRules calls every function twice.
func checkRules(t *testing.T, n int, p uint32, r int, a []int64) {
	t.Helper()
	kept := slices.Clone(a)
	for _, root := range []uint32{0, 3, p, math.MaxUint32} {
		first := answers(n, p, r, a, root)
		for i, c := range first {
			if c.e != api.OK && (c.value != 0 || len(c.lists) != 0) {
				t.Fatalf("(%d, %d, %d, %v, %d): result %d is %v", n, p, r, a, root, i, c)
			}
		}
		want := copies(first)
		for _, c := range first {
			overwrite(c.lists...)
		}
		if again := copies(answers(n, p, r, a, root)); !reflect.DeepEqual(again, want) {
			t.Fatalf("(%d, %d, %d, %v, %d): %v, then %v", n, p, r, a, root, want, again)
		}
		if !slices.Equal(a, kept) {
			t.Fatalf("%v was changed to %v", kept, a)
		}
	}
}

// P7.7 and R3: the factors share no memory with each other, and the list is no part of a longer one that is used.
func TestMemoryOfFactors(t *testing.T) {
	for _, n := range dimensions {
		for _, p := range []uint32{3, 5, 7, 17, 31, 41, 97, 127, 193, 257, 4999, 65521} {
			want := factors(t, n, p)
			for i := range want {
				list, _ := Factors(n, p)
				overwrite(list[i])
				for j, f := range list {
					if j != i && !slices.Equal(f, want[j]) {
						t.Fatalf("Factors(%d, %d): the factor %d changes with %d", n, p, j, i)
					}
				}
			}
		}
	}
}
