package primes

import (
	"math"
	"slices"
	"testing"

	"obscura/api"
)

// results calls every function, in a fixed order.
func results(n int, a, b uint32, k int) (values []uint32, errnos []api.Errno) {
	note := func(v uint32, e api.Errno) {
		values, errnos = append(values, v), append(errnos, e)
	}
	note(Below(a, b))
	note(Next(a, b))
	note(Generator(a))
	note(Plain(n, a, k))
	chain, e := Chain(n, b, k)
	for _, p := range chain {
		note(p, e)
	}
	note(0, e)
	return values, errnos
}

// R1, R2 and R6: for extreme arguments the functions return, with zeros beside an error, and the same again when they are called again.
func TestRules(t *testing.T) {
	extremes := []uint32{0, 1, 2, 3, 17, 65535, 65537, 1 << 26, 1 << 30, top - 1, top, top + 1, 2147483659, math.MaxUint32 - 4, math.MaxUint32}
	counts := []int{math.MinInt, -1, 0, 1, 2, 25, 26, math.MaxInt}
	for _, n := range []int{math.MinInt, -4, 0, 1, 4, 7, 8, 16, 32, 33, 64, math.MaxInt} {
		for _, a := range extremes {
			for _, b := range extremes {
				for _, k := range counts {
					values, errnos := results(n, a, b, k)
					again, errnosAgain := results(n, a, b, k)
					if !slices.Equal(values, again) || !slices.Equal(errnos, errnosAgain) {
						t.Errorf("(%d, %d, %d, %d): the results are not the same again", n, a, b, k)
					}
					for i, e := range errnos {
						if e != api.OK && values[i] != 0 {
							t.Errorf("(%d, %d, %d, %d): result %d is %d beside error %d", n, a, b, k, i, values[i], e)
						}
					}
				}
			}
		}
	}
}

// R3: a chain is new memory.
func TestChainsAreNew(t *testing.T) {
	first, _ := Chain(8, 17, 5)
	want := slices.Clone(first)
	for i := range first {
		first[i] = 0
	}
	if again, e := Chain(8, 17, 5); !slices.Equal(again, want) || e != api.OK {
		t.Errorf("Chain(8, 17, 5): %v, error %d; want %v", again, e, want)
	}
}
