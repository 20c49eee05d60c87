package supply

import (
	"math"
	"math/rand"
	"reflect"
	"testing"

	"obscura/api"
)

// answer is a result of any method, and its error.
type answer struct {
	name string
	got  any
	e    api.Errno
}

// all calls every method that takes bits, each one twice at least.
func all(s *Supply) []answer {
	var list []answer
	add := func(name string, got any, e api.Errno) { list = append(list, answer{name, got, e}) }
	for range 2 {
		v, e := s.Bits(9)
		add("Bits", v, e)
		v, e = s.Below(100)
		add("Below", v, e)
		u, e := s.Uniform(5, 17)
		add("Uniform", u, e)
		l, e := s.Ternary(8, 4)
		add("Ternary", l, e)
		b, e := s.Bounded(6, 2)
		add("Bounded", b, e)
	}
	return list
}

// overwrite changes all memory of the lists among answers.
func overwrite(list []answer) {
	for _, a := range list {
		switch l := a.got.(type) {
		case []uint32:
			clear(l[:cap(l)])
		case []int8:
			clear(l[:cap(l)])
		case []int64:
			clear(l[:cap(l)])
		}
	}
}

// checkAnswers compares answers.
func checkAnswers(t *testing.T, got, want []answer) {
	t.Helper()
	for i, a := range got {
		if a.e != want[i].e || !equal(a.got, want[i].got) {
			t.Errorf("%s: %v, error %d; want %v, error %d", a.name, a.got, a.e, want[i].got, want[i].e)
		}
	}
}

// P10.5: whatever is called, the bits that were taken and those that are left are all bits.
func TestTakenAndLeft(t *testing.T) {
	r := rand.New(rand.NewSource(109))
	for range 300 {
		size := r.Intn(120)
		b := newBoth(t, drawn(r, size))
		for range 30 {
			n := r.Intn(12)
			switch r.Intn(6) {
			case 0:
				b.bits(t, 1+r.Intn(64))
			case 1:
				b.below(t, 1+r.Uint64()>>r.Intn(64)>>1)
			case 2:
				b.uniform(t, n, 1+r.Uint32()>>r.Intn(32)>>1)
			case 3:
				b.bounded(t, n, r.Uint32()>>(1+r.Intn(31)))
			case 4:
				b.ternary(t, 1+n, r.Intn(2+n))
			case 5:
				checkErrors(t, refused(b.s), api.ErrArg)
			}
			checkPlace(t, b.s, b.t.place, 8*size-b.t.place, "any call")
		}
	}
}

// refused calls every method with arguments that are not valid.
func refused(s *Supply) []answer {
	bits, e1 := s.Bits(65)
	below, e2 := s.Below(0)
	uniform, e3 := s.Uniform(2, 0)
	ternary, e4 := s.Ternary(2, 3)
	bounded, e5 := s.Bounded(2, math.MaxUint32)
	return []answer{{"Bits", bits, e1}, {"Below", below, e2}, {"Uniform", uniform, e3}, {"Ternary", ternary, e4}, {"Bounded", bounded, e5}}
}

// checkErrors tests that all answers are an error and nothing else.
func checkErrors(t *testing.T, list []answer, want api.Errno) {
	t.Helper()
	for _, a := range list {
		v := reflect.ValueOf(a.got)
		if nothing := v.Kind() == reflect.Slice && v.Len() == 0 || v.IsZero(); a.e != want || !nothing {
			t.Errorf("%s: %v, error %d; want error %d", a.name, a.got, a.e, want)
		}
	}
}

// P10.5: the bits that are left have no influence: other ones give the same answers, as long as those that are taken are the same.
func TestBitsThatAreLeft(t *testing.T) {
	r := rand.New(rand.NewSource(110))
	for range 200 {
		bits := drawn(r, 100)
		s := made(t, bits)
		want := all(s)
		taken := s.Taken()
		other := []byte(drawn(r, 100))
		copy(other, bits[:taken/8])
		kept := ^byte(0xFF >> (taken % 8))
		other[taken/8] = bits[taken/8]&kept | other[taken/8]&^kept
		for _, rest := range []string{string(other), string(other[:(taken+7)/8]), string(other[:99]), string(other) + bits} {
			again := made(t, rest)
			checkAnswers(t, all(again), want)
			checkPlace(t, again, taken, 8*len(rest)-taken, "all methods")
		}
	}
}

// P10.6: among all sequences of k bits, each number is made by one; the others lead to a second try.
func TestEachNumberOnce(t *testing.T) {
	for n := uint64(1); n <= 600; n++ {
		k := 0
		for 1<<k < n {
			k++
		}
		times := make([]int, n)
		for first := range 1 << k {
			// The bits are followed by so many others that k bits 1 are just not there.
			bits := string([]byte{byte(first << (16 - k) >> 8), byte(first << (16 - k))})
			s := made(t, bits)
			if v, e := s.Below(n); e == api.OK && s.Taken() == k {
				times[v]++
			}
		}
		for v, count := range times {
			if count != 1 {
				t.Errorf("Below(%d): %d is made by %d sequences", n, v, count)
			}
		}
	}
}

// P10.6: as many lists of signs are made of all bits as there are, each of them once.
func TestEachSecretOnce(t *testing.T) {
	times := map[[4]int8]int{}
	for first := range 256 {
		s := made(t, string([]byte{byte(first)}))
		// 2 + 1 bits for the first sign, and 2 + 1 bits for the second one, if no number is too great.
		if l, e := s.Ternary(4, 2); e == api.OK && s.Taken() == 6 {
			times[[4]int8(l)]++
		}
	}
	// There are 6 pairs of places and 4 pairs of signs; each list comes from both orders of its places, and each sequence of 6 bits stands in 4 bytes.
	if len(times) != 24 {
		t.Errorf("Ternary(4, 2) made %d lists", len(times))
	}
	for l, count := range times {
		if count != 8 {
			t.Errorf("Ternary(4, 2) made %v %d times", l, count)
		}
	}
}

// R5: pointers that New did not return.
func TestNoSupply(t *testing.T) {
	copied := *made(t, chapter)
	for _, s := range []*Supply{nil, {}, new(Supply), &copied} {
		checkPlace(t, s, 0, 0, "nothing")
		checkErrors(t, all(s), api.ErrNil)
		checkErrors(t, refused(s), api.ErrNil)
		checkPlace(t, s, 0, 0, "nothing")
	}
}

// R3, R6: results are new memory, and supplies of the same bits are independent and alike.
func TestRules(t *testing.T) {
	r := rand.New(rand.NewSource(111))
	for range 100 {
		bits := []byte(drawn(r, 80))
		s, other := made(t, string(bits)), made(t, string(bits))
		want := all(s)
		overwrite(all(other))
		checkPlace(t, other, s.Taken(), s.Left(), "all methods")
		checkAnswers(t, all(made(t, string(bits))), want)
		rest := all(s)
		overwrite(want)
		overwrite(rest)
		third := made(t, string(bits))
		all(third)
		checkAnswers(t, all(other), all(third))
	}
}

// R2: after an error in the middle of a list, the same bits are taken by the next call.
func TestGivenBack(t *testing.T) {
	r := rand.New(rand.NewSource(112))
	for range 100 {
		bits := drawn(r, 12)
		s := made(t, bits)
		u, e := s.Uniform(7, 1<<16)
		checkError(t, u, e, api.ErrNone, "Uniform")
		b, e := s.Bounded(100, 1)
		checkError(t, b, e, api.ErrNone, "Bounded")
		l, e := s.Ternary(300, 20)
		checkError(t, l, e, api.ErrNone, "Ternary")
		checkPlace(t, s, 0, 96, "errors")
		checkAnswers(t, all(s), all(made(t, bits)))
	}
}
