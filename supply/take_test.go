package supply

import (
	"math"
	"math/rand"
	"strings"
	"testing"

	"obscura/api"
)

// P10.1 to P10.4: the examples of the chapter.
func TestOfTheChapter(t *testing.T) {
	s := made(t, chapter)
	checkPlace(t, s, 0, 16, "New")
	v, e := s.Bits(3)
	checkAll(t, v, e, 5, "Bits(3)")
	checkPlace(t, s, 3, 13, "Bits(3)")
	v, e = s.Below(1)
	checkAll(t, v, e, 0, "Below(1)")
	checkPlace(t, s, 3, 13, "Below(1)")
	v, e = s.Below(5)
	checkAll(t, v, e, 1, "Below(5)")
	checkPlace(t, s, 6, 10, "Below(5)")
	v, e = s.Below(3)
	checkAll(t, v, e, 1, "Below(3)")
	checkPlace(t, s, 8, 8, "Below(3)")
	v, e = s.Bits(9)
	checkError(t, v, e, api.ErrNone, "Bits(9)")
	checkPlace(t, s, 8, 8, "Bits(9)")
	v, e = s.Bits(8)
	checkAll(t, v, e, 15, "Bits(8)")
	checkPlace(t, s, 16, 0, "Bits(8)")

	s = made(t, chapter)
	u, e := s.Uniform(3, 3)
	checkAll(t, u, e, []uint32{2, 2, 1}, "Uniform(3, 3)")
	checkPlace(t, s, 6, 10, "Uniform(3, 3)")
	s = made(t, chapter)
	b, e := s.Bounded(2, 1)
	checkAll(t, b, e, []int64{1, 1}, "Bounded(2, 1)")
	checkPlace(t, s, 4, 12, "Bounded(2, 1)")
	s = made(t, chapter)
	l, e := s.Ternary(4, 2)
	checkAll(t, l, e, []int8{0, -1, -1, 0}, "Ternary(4, 2)")
	checkPlace(t, s, 6, 10, "Ternary(4, 2)")
}

// P10.1: supplies of all small sizes, and of those at the limit.
func TestNew(t *testing.T) {
	for n := range 40 {
		checkPlace(t, made(t, strings.Repeat("\xFF", n)), 0, 8*n, "New")
	}
	for _, n := range []int{api.MaxSupply - 1, api.MaxSupply} {
		s := made(t, strings.Repeat("\x00", n-1)+"\x03")
		checkPlace(t, s, 0, 8*n, "New")
		for range n/8 - 1 {
			if v, e := s.Bits(64); v != 0 || e != api.OK {
				t.Fatalf("Bits(64) at %d: %d, error %d", s.Taken(), v, e)
			}
		}
		left := 64 + n%8*8
		checkPlace(t, s, 8*n-left, left, "Bits(64)")
		if left > 64 {
			v, e := s.Bits(left - 64)
			checkAll(t, v, e, 0, "Bits before the end")
		}
		v, e := s.Bits(64)
		checkAll(t, v, e, 3, "the last bits")
		checkPlace(t, s, 8*n, 0, "the last bits")
	}
	for _, n := range []int{api.MaxSupply + 1, api.MaxSupply + 2, 2 * api.MaxSupply, 8 * api.MaxSupply} {
		if New(strings.Repeat("x", n)) != nil {
			t.Errorf("New of %d bytes is not nil", n)
		}
	}
}

// P10.2: all numbers of bits, at all places of a byte, to the end of the supply and beyond it.
func TestBits(t *testing.T) {
	r := rand.New(rand.NewSource(102))
	for n := 1; n <= 64; n++ {
		for skip := range 9 {
			b := newBoth(t, drawn(r, 40))
			if skip > 0 {
				b.bits(t, skip)
			}
			for range 320/n + 2 {
				b.bits(t, n)
			}
		}
	}
}

// P10.2: as many bits as are left may be taken, and not one more.
func TestBitsAtTheEnd(t *testing.T) {
	r := rand.New(rand.NewSource(103))
	for size := range 9 {
		bits := drawn(r, size)
		for n := 1; n <= 64; n++ {
			b := newBoth(t, bits)
			b.bits(t, n)
			b.bits(t, max(1, min(64, 8*size-n)))
			b.bits(t, 1)
		}
	}
}

// P10.2: numbers of bits that are none, whatever is left.
func TestBitsRefuses(t *testing.T) {
	for _, bits := range []string{"", chapter, strings.Repeat("x", 1000)} {
		s := made(t, bits)
		for _, n := range append(noCounts, 0, 65, 66, 128, 4096) {
			v, e := s.Bits(n)
			checkError(t, v, e, api.ErrArg, "Bits(%d)", n)
			checkPlace(t, s, 0, 8*len(bits), "Bits")
		}
	}
}

// P10.2: numbers below all small limits, and below great ones; those that are too great are left out.
func TestBelow(t *testing.T) {
	r := rand.New(rand.NewSource(104))
	for _, n := range limits() {
		for range 4 {
			b := newBoth(t, drawn(r, 100))
			b.bits(t, 1+r.Intn(8))
			for range 20 {
				b.below(t, n)
			}
		}
	}
}

// P10.2: numbers that are too great stand before the end of the supply, or the number that is taken.
func TestBelowAgain(t *testing.T) {
	for _, n := range limits() {
		for size := range 20 {
			newBoth(t, strings.Repeat("\xFF", size)).below(t, n)
			newBoth(t, strings.Repeat("\xFF", size)+strings.Repeat("\x00", 20)).below(t, n)
			newBoth(t, strings.Repeat("\x00", size)).below(t, n)
		}
	}
}

// P10.2: a number below 1 needs no bits, and below 0 there is none.
func TestBelowOfNothing(t *testing.T) {
	for _, bits := range []string{"", chapter} {
		s := made(t, bits)
		for range 3 {
			v, e := s.Below(1)
			checkAll(t, v, e, 0, "Below(1)")
			v, e = s.Below(0)
			checkError(t, v, e, api.ErrArg, "Below(0)")
			checkPlace(t, s, 0, 8*len(bits), "Below")
		}
	}
	v, e := made(t, "").Below(2)
	checkError(t, v, e, api.ErrNone, "Below(2) of nothing")
}

// P10.3: lists of numbers below small and great limits.
func TestUniform(t *testing.T) {
	r := rand.New(rand.NewSource(105))
	for _, q := range []uint32{1, 2, 3, 4, 5, 7, 8, 9, 17, 255, 256, 257, 65535, 65537, 1<<30 + 1, api.MaxMod, api.MaxMod + 1, api.MaxMod + 2, 3 << 30, math.MaxUint32} {
		for _, n := range []int{0, 1, 2, 3, 4, 5, 8, 31, 32, 33} {
			for _, size := range []int{0, 1, 2, 5, 20, 50, 300} {
				b := newBoth(t, drawn(r, size))
				b.uniform(t, n, q)
				b.uniform(t, 1, q)
				b.uniform(t, n, q)
			}
		}
	}
}

// P10.3: lists of numbers to both sides of 0.
func TestBounded(t *testing.T) {
	r := rand.New(rand.NewSource(106))
	for _, bound := range []uint32{0, 1, 2, 3, 4, 7, 8, 64, 127, 128, 1 << 15, 1<<30 - 1, 1 << 30, api.MaxMod - 1, api.MaxMod} {
		for _, n := range []int{0, 1, 2, 3, 4, 5, 8, 31, 32, 33} {
			for _, size := range []int{0, 1, 2, 5, 20, 50, 300} {
				b := newBoth(t, drawn(r, size))
				b.bounded(t, n, bound)
				b.bounded(t, 1, bound)
				b.bounded(t, n, bound)
			}
		}
	}
}

// P10.3: the least and the greatest numbers.
func TestBoundedEnds(t *testing.T) {
	for _, bound := range []uint32{1, 2, 3, 64, 1 << 30, api.MaxMod} {
		s := made(t, strings.Repeat("\x00", 64))
		l, e := s.Bounded(2, bound)
		checkAll(t, l, e, []int64{-int64(bound), -int64(bound)}, "Bounded of bits 0")
	}
	// 2 b is these 32 bits, and above it there is just one number.
	l, e := made(t, "\xFF\xFF\xFF\xFF\xFF\xFF\xFF\xFE\x7F\xFF\xFF\xFF").Bounded(2, api.MaxMod)
	checkAll(t, l, e, []int64{api.MaxMod, 0}, "Bounded of bits 1")
}

// P10.3, P10.4: lists of the greatest length.
func TestLongLists(t *testing.T) {
	r := rand.New(rand.NewSource(107))
	for _, n := range []int{api.MaxTake - 1, api.MaxTake} {
		b := newBoth(t, drawn(r, 80000))
		b.uniform(t, n, api.MaxMod)
		b.uniform(t, n, 1)
		b.bounded(t, n, 2)
		b.ternary(t, n, n)
		b.ternary(t, n, 0)
		b.ternary(t, n, 7)
		b.bounded(t, n, api.MaxMod)
		b.bounded(t, n, api.MaxMod)
		b.bounded(t, n, api.MaxMod)
		b.bounded(t, n, 0)
	}
}

// P10.3: arguments that are not valid, whatever is left.
func TestListsRefuse(t *testing.T) {
	for _, bits := range []string{"", chapter, strings.Repeat("x", 40000)} {
		s := made(t, bits)
		for _, n := range append(noCounts, 0, 1, 4, api.MaxTake) {
			u, e := s.Uniform(n, 0)
			checkError(t, u, e, api.ErrArg, "Uniform(%d, 0)", n)
			for _, bound := range []uint32{api.MaxMod + 1, api.MaxMod + 2, math.MaxUint32} {
				b, e := s.Bounded(n, bound)
				checkError(t, b, e, api.ErrArg, "Bounded(%d, %d)", n, bound)
			}
		}
		for _, n := range noCounts {
			for _, q := range []uint32{1, 2, 17, api.MaxMod, math.MaxUint32} {
				u, e := s.Uniform(n, q)
				checkError(t, u, e, api.ErrArg, "Uniform(%d, %d)", n, q)
			}
			for _, bound := range []uint32{0, 1, 2, 17, api.MaxMod} {
				b, e := s.Bounded(n, bound)
				checkError(t, b, e, api.ErrArg, "Bounded(%d, %d)", n, bound)
			}
		}
		checkPlace(t, s, 0, 8*len(bits), "all")
	}
}

// P10.4: all numbers of signs for small lists, and some for longer ones, with enough bits and without.
func TestTernary(t *testing.T) {
	r := rand.New(rand.NewSource(108))
	for n := 1; n <= 33; n++ {
		for h := range n + 1 {
			for _, size := range []int{0, 1, 3, 10, 60} {
				b := newBoth(t, drawn(r, size))
				b.ternary(t, n, h)
				b.ternary(t, 1, 1)
				b.ternary(t, n, h)
			}
		}
	}
	for range 50 {
		n := 1 + r.Intn(300)
		newBoth(t, drawn(r, 1000)).ternary(t, n, r.Intn(n+1))
	}
}

// P10.4: a list of one element takes only a sign, and a list without signs nothing.
func TestTernaryOfFewBits(t *testing.T) {
	s := made(t, "\x40")
	l, e := s.Ternary(1, 1)
	checkAll(t, l, e, []int8{1}, "Ternary(1, 1) of a bit 0")
	l, e = s.Ternary(1, 1)
	checkAll(t, l, e, []int8{-1}, "Ternary(1, 1) of a bit 1")
	checkPlace(t, s, 2, 6, "Ternary(1, 1)")
	s = made(t, "")
	l, e = s.Ternary(3, 0)
	checkAll(t, l, e, []int8{0, 0, 0}, "Ternary(3, 0)")
	l, e = s.Ternary(1, 1)
	checkError(t, l, e, api.ErrNone, "Ternary(1, 1) of nothing")
}

// P10.4: all lists of 4 numbers with 4 signs that the bits of a byte and some others make have these signs.
func TestTernaryWeights(t *testing.T) {
	for first := range 256 {
		for h := range 5 {
			l, e := made(t, string([]byte{byte(first), 0x1B, 0x1B})).Ternary(4, h)
			weight := 0
			for _, v := range l {
				if v < -1 || v > 1 {
					t.Errorf("Ternary(4, %d) of the byte %d: %v", h, first, l)
				}
				weight += int(v * v)
			}
			if e != api.OK || weight != h {
				t.Errorf("Ternary(4, %d) of the byte %d: %v, error %d", h, first, l, e)
			}
		}
	}
}

// P10.4: arguments that are not valid, whatever is left.
func TestTernaryRefuses(t *testing.T) {
	for _, bits := range []string{"", chapter, strings.Repeat("x", 40000)} {
		s := made(t, bits)
		for _, n := range append(noCounts, 0) {
			for _, h := range []int{math.MinInt, -1, 0, 1, n, math.MaxInt} {
				l, e := s.Ternary(n, h)
				checkError(t, l, e, api.ErrArg, "Ternary(%d, %d)", n, h)
			}
		}
		for _, n := range []int{1, 2, 4, 32, api.MaxTake} {
			for _, h := range append(noCounts, n+1, n+2) {
				l, e := s.Ternary(n, h)
				checkError(t, l, e, api.ErrArg, "Ternary(%d, %d)", n, h)
			}
		}
		checkPlace(t, s, 0, 8*len(bits), "all")
	}
}
