package sponge

import (
	"math"
	"math/rand"
	"slices"
	"testing"

	"obscura/api"
)

// checkPermute tests a permutation.
func checkPermute(t *testing.T, x [5]uint64, rounds int, want [5]uint64) {
	t.Helper()
	before := x
	got, e := Permute(x, rounds)
	if got != want || e != api.OK {
		t.Fatalf("Permute(%X, %d): %X, error %d; want %X", before, rounds, got, e, want)
	}
	if x != before {
		t.Fatalf("Permute(%X, %d) changes its argument to %X", before, rounds, x)
	}
}

// P11.1: the chapter's example.
func TestPermuteExample(t *testing.T) {
	checkPermute(t, [5]uint64{}, 1, [5]uint64{0x000964B00000004B, 0x0000000096000213, 0x53FFFFFFFFFFFF90, 0x12E580000000004B, 0})
}

// P11.1: words that are known from elsewhere, after all rounds.
func TestPermuteKnown(t *testing.T) {
	checkPermute(t, [5]uint64{0x00400C0000000100}, 12, [5]uint64{0xEE9398AADB67F03D, 0x8BB21831C60F1002, 0xB48A92DB98D5DA62, 0x43189921B8F8E3E8, 0x348FA5C9D525E140})
}

// P11.1: all numbers of rounds.
func TestPermute(t *testing.T) {
	r := rand.New(rand.NewSource(111))
	for _, x := range states(r) {
		for rounds := 1; rounds <= 12; rounds++ {
			checkPermute(t, x, rounds, secondPermute(x, rounds))
		}
	}
}

// P11.1: all values of a column, in each place: each one meets each other one beside it.
func TestPermuteColumns(t *testing.T) {
	for first := range 32 {
		for second := range 32 {
			var x [5]uint64
			for i := range x {
				for place := range 64 {
					column := first
					if place%3 == 1 {
						column = second
					}
					x[i] |= uint64(column>>i&1) << place
				}
			}
			checkPermute(t, x, 1, secondPermute(x, 1))
		}
	}
}

// P11.1: other numbers of rounds; some are from 1 to 12 modulo a power of 2.
func TestPermuteNoRounds(t *testing.T) {
	list := []int{math.MinInt, math.MinInt + 1, -1<<32 + 1, -1 << 31, -256 + 5, 256 + 5, 1<<16 + 1, 1 << 31, 1<<32 + 1, 1<<32 + 12, math.MaxInt}
	for n := range 40 {
		list = append(list, -n, 13+n)
	}
	for _, rounds := range list {
		for _, x := range [][5]uint64{{}, {1, 2, 3, 4, 5}, {^uint64(0)}} {
			got, e := Permute(x, rounds)
			if got != [5]uint64{} || e != api.ErrArg {
				t.Errorf("Permute(%X, %d): %X, error %d; want ErrArg", x, rounds, got, e)
			}
		}
	}
}

// P11.5: words are found again from those after the permutation, so that different ones lead to different ones.
func TestPermuteIsInvertible(t *testing.T) {
	r := rand.New(rand.NewSource(112))
	for range 60 {
		x := drawnWords(r)
		for rounds := 1; rounds <= 12; rounds++ {
			y, e := Permute(x, rounds)
			if back := secondInverse(y, rounds); back != x || e != api.OK {
				t.Fatalf("Permute(%X, %d) is %X, error %d, which belongs to %X", x, rounds, y, e, back)
			}
			// And all words are reached.
			checkPermute(t, secondInverse(x, rounds), rounds, x)
		}
	}
}

// P11.5: words that differ in a bit.
func TestPermuteDiffers(t *testing.T) {
	r := rand.New(rand.NewSource(113))
	for rounds := 1; rounds <= 12; rounds++ {
		x := drawnWords(r)
		y, _ := Permute(x, rounds)
		list := [][5]uint64{y}
		for i := range x {
			for place := range 64 {
				other := x
				other[i] ^= 1 << place
				z, e := Permute(other, rounds)
				if slices.Contains(list, z) || e != api.OK {
					t.Fatalf("Permute(%X, %d): %X, error %d, as other words have it", other, rounds, z, e)
				}
				list = append(list, z)
			}
		}
	}
}
