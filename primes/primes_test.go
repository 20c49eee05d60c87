package primes

import (
	"math"
	"math/big"
	"math/rand"
	"testing"

	"obscura/api"
)

const top = api.MaxMod

// isPrime is exact for every number below 2^64.
func isPrime(v uint64) bool { return new(big.Int).SetUint64(v).ProbablyPrime(0) }

// hasStep reports whether v is a prime with the step.
func hasStep(v, step uint64) bool { return isPrime(v) && (v-1)%step == 0 }

// smallSteps are all up to some number, and some above.
func smallSteps() []uint32 {
	var l []uint32
	for s := uint32(1); s <= 70; s++ {
		l = append(l, s)
	}
	return append(l, 96, 100, 256, 400, 498, 499, 500, 501, 1<<30, 1<<31, math.MaxUint32)
}

type search struct {
	f    func(at, step uint32) (uint32, api.Errno)
	name string
}

func (s search) check(t *testing.T, at, step, want uint32, e api.Errno) {
	t.Helper()
	if got, ge := s.f(at, step); got != want || ge != e {
		t.Errorf("%s(%d, %d): %d, error %d; want %d, %d", s.name, at, step, got, ge, want, e)
	}
}

func below() search { return search{Below, "Below"} }
func next() search  { return search{Next, "Next"} }

// P3.1: the examples of the chapter.
func TestSearchesOfTheChapter(t *testing.T) {
	below().check(t, 100, 8, 97, api.OK)
	below().check(t, 17, 16, 0, api.ErrNone)
	below().check(t, 2, 1, 0, api.ErrNone)
	below().check(t, 100, 0, 0, api.ErrArg)
	next().check(t, 2, 16, 17, api.OK)
	next().check(t, 18, 16, 97, api.OK)
	next().check(t, 2147483647, 1, 2147483647, api.OK)
	next().check(t, 2147483648, 1, 0, api.ErrNone)
}

// P3.1: Below, for all small limits.
func TestBelowSmall(t *testing.T) {
	for _, step := range smallSteps() {
		greatest, e := uint32(0), api.ErrNone
		for limit := range uint32(500) {
			below().check(t, limit, step, greatest, e)
			if hasStep(uint64(limit), uint64(step)) {
				greatest, e = limit, api.OK
			}
		}
	}
}

// P3.1: Next, from all small numbers; between 3000 and the first prime with the step there is no other.
func TestNextSmall(t *testing.T) {
	for _, step := range smallSteps() {
		want, e := Next(3000, step)
		if e == api.OK {
			checkNext(t, 3000, step)
		}
		for at := uint32(2999); ; at-- {
			if hasStep(uint64(at), uint64(step)) {
				want, e = at, api.OK
			}
			next().check(t, at, step, want, e)
			if at == 0 {
				break
			}
		}
	}
}

// checkNext tests that Next returns a prime with the step and none before it has the step.
func checkNext(t *testing.T, at, step uint32) {
	t.Helper()
	v, e := Next(at, step)
	end := uint64(top) + 1
	if e == api.OK {
		end = uint64(v)
		if v < at || v > top || !hasStep(uint64(v), uint64(step)) {
			t.Errorf("Next(%d, %d): %d", at, step, v)
		}
	} else if v != 0 || e != api.ErrNone {
		t.Errorf("Next(%d, %d): %d, error %d", at, step, v, e)
	}
	// 1 modulo the step, from at on.
	c := uint64(at) + (uint64(step)-(uint64(at)+uint64(step)-1)%uint64(step))%uint64(step)
	for ; c < end; c += uint64(step) {
		if isPrime(c) {
			t.Errorf("Next(%d, %d): %d, error %d; but %d has the step", at, step, v, e, c)
		}
	}
}

// checkBelow tests that Below returns a prime with the step and none behind it has the step.
func checkBelow(t *testing.T, limit, step uint32) {
	t.Helper()
	v, e := Below(limit, step)
	if e == api.OK {
		if v >= limit || !hasStep(uint64(v), uint64(step)) {
			t.Errorf("Below(%d, %d): %d", limit, step, v)
		}
	} else if v != 0 || e != api.ErrNone {
		t.Errorf("Below(%d, %d): %d, error %d", limit, step, v, e)
	}
	c := uint64(v) + uint64(step)
	if e != api.OK {
		c = 1 + uint64(step)
	}
	for ; c < uint64(limit); c += uint64(step) {
		if isPrime(c) {
			t.Errorf("Below(%d, %d): %d, error %d; but %d has the step", limit, step, v, e, c)
		}
	}
}

// P3.1: numbers and steps of all sizes, up to the limits.
func TestSearchesGreat(t *testing.T) {
	r := rand.New(rand.NewSource(1))
	numbers := []uint32{1, 2, 3, 65537, 1<<30 - 1, 1 << 30, 1<<30 + 3, top - 18, top - 1, top, top + 1}
	steps := []uint32{1, 2, 3, 4, 6, 8, 64, 65536, 1 << 24, 1<<30 - 1, 1 << 30, top - 2, top - 1, top, top + 1, math.MaxUint32 - 1, math.MaxUint32}
	for range 200 {
		numbers = append(numbers, r.Uint32()>>(1+r.Intn(28)))
		steps = append(steps, 1+r.Uint32()>>r.Intn(32))
	}
	for i, step := range steps {
		for _, v := range numbers {
			if i >= 20 && r.Intn(10) > 0 {
				continue
			}
			checkBelow(t, v, max(step, 1))
			checkNext(t, v, max(step, 1))
		}
	}
}

// P3.1: a step may be p - 1 itself; sums with great steps do not wrap around.
func TestSearchEdges(t *testing.T) {
	below().check(t, top+1, 1, top, api.OK)
	below().check(t, top+1, top-1, top, api.OK)
	below().check(t, top, top-1, 0, api.ErrNone)
	below().check(t, top, 1, 2147483629, api.OK)
	below().check(t, top+1, 2147483628, 2147483629, api.OK)
	below().check(t, top+1, top, 0, api.ErrNone)
	below().check(t, 0, 1, 0, api.ErrNone)
	below().check(t, 1, 1, 0, api.ErrNone)
	below().check(t, 3, 1, 2, api.OK)
	below().check(t, 3, 2, 0, api.ErrNone)
	below().check(t, 4, 2, 3, api.OK)
	next().check(t, 0, 1, 2, api.OK)
	next().check(t, 1, 1, 2, api.OK)
	next().check(t, 0, 2, 3, api.OK)
	next().check(t, 17, 16, 17, api.OK)
	next().check(t, 0, top-1, top, api.OK)
	next().check(t, top, top-1, top, api.OK)
	next().check(t, 2, top, 0, api.ErrNone)
	next().check(t, 2147483630, 4, 0, api.ErrNone)
	next().check(t, math.MaxUint32, 1, 0, api.ErrNone)
	next().check(t, math.MaxUint32, math.MaxUint32, 0, api.ErrNone)
	next().check(t, 2, math.MaxUint32, 0, api.ErrNone)
	next().check(t, 2147483659, 1, 0, api.ErrNone) // a prime above MaxMod
}

// P3.1: ErrArg for the step 0 and, of Below, for a limit above 2^31.
func TestSearchesRefuse(t *testing.T) {
	for _, at := range []uint32{0, 1, 2, 100, top, top + 1, top + 2, math.MaxUint32} {
		below().check(t, at, 0, 0, api.ErrArg)
		next().check(t, at, 0, 0, api.ErrArg)
	}
	for _, limit := range []uint32{top + 2, top + 3, 3 << 30, math.MaxUint32} {
		for _, step := range []uint32{0, 1, 2, 8, math.MaxUint32} {
			below().check(t, limit, step, 0, api.ErrArg)
		}
	}
}
