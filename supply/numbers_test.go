package supply

import (
	"fmt"
	"math"
	"math/big"
	"math/rand"
	"reflect"
	"strings"
	"testing"

	"obscura/api"
)

// The bytes of the chapter's examples.
const chapter = "\xA5\x0F"

// noCounts are numbers that are none of bits, lists or signs; some are small modulo 2^32.
var noCounts = []int{math.MinInt, math.MinInt + 1, math.MinInt + 8, -1 << 32, -1<<32 + 1, -4096, -64, -2, -1, api.MaxTake + 1, api.MaxTake + 2, 1 << 20, 1 << 31, 1 << 32, 1<<32 + 1, 1<<32 + 8, math.MaxInt}

// tape is a second way to take bits: it has the binary digits of a string, and a position.
type tape struct {
	digits string
	place  int
}

func newTape(s string) *tape {
	var b strings.Builder
	for i := range len(s) {
		fmt.Fprintf(&b, "%08b", s[i])
	}
	return &tape{digits: b.String()}
}

// number takes k digits; ok is false if they are not there.
func (t *tape) number(k int) (n *big.Int, ok bool) {
	if k > len(t.digits)-t.place {
		return nil, false
	}
	n = new(big.Int)
	if k > 0 {
		n.SetString(t.digits[t.place:t.place+k], 2)
	}
	t.place += k
	return n, true
}

// below takes a number below n as the definition says.
func (t *tape) below(n *big.Int) (*big.Int, bool) {
	k := new(big.Int).Sub(n, big.NewInt(1)).BitLen()
	for {
		v, ok := t.number(k)
		if !ok || v.Cmp(n) < 0 {
			return v, ok
		}
	}
}

// list takes numbers below n, and subtracts b from each.
func (t *tape) list(count int, n *big.Int, b int64) ([]int64, bool) {
	list := []int64{}
	for range count {
		v, ok := t.below(n)
		if !ok {
			return nil, false
		}
		list = append(list, new(big.Int).Sub(v, big.NewInt(b)).Int64())
	}
	return list, true
}

// ternary takes the signs: an element that is exchanged is cut out of its place and put into the other one.
func (t *tape) ternary(n, h int) ([]int8, bool) {
	places := []int{}
	for i := range n {
		places = append(places, i)
	}
	result := make([]int8, n)
	for i := range h {
		j, ok := t.below(big.NewInt(int64(n - i)))
		if !ok {
			return nil, false
		}
		first, second := places[i], places[i+int(j.Int64())]
		places[i+int(j.Int64())], places[i] = first, second
		bit, ok := t.number(1)
		if !ok {
			return nil, false
		}
		if result[second] = 1; bit.Sign() > 0 {
			result[second] = -1
		}
	}
	return result, true
}

// both are a supply and a tape of the same bits.
type both struct {
	s *Supply
	t *tape
}

func newBoth(t *testing.T, bits string) both {
	t.Helper()
	return both{made(t, bits), newTape(bits)}
}

// made returns a supply.
func made(t *testing.T, bits string) *Supply {
	t.Helper()
	s := New(bits)
	if s == nil {
		t.Fatalf("New of %d bytes is nil", len(bits))
	}
	return s
}

// settle tests the result of a call, for which the tape has what is wanted, or not; with an error the tape goes back to where it was.
func settle[T any](t *testing.T, b both, before int, got T, e api.Errno, want T, ok bool, name string) {
	t.Helper()
	var zero T
	switch {
	case !ok:
		b.t.place = before
		if e != api.ErrNone || !equal(got, zero) {
			t.Errorf("%s: %v, error %d; want ErrNone", name, got, e)
		}
	case e != api.OK || !equal(got, want):
		t.Errorf("%s: %v, error %d; want %v", name, got, e, want)
	}
	checkPlace(t, b.s, b.t.place, len(b.t.digits)-b.t.place, name)
}

// bits, below, uniform, bounded and ternary test a call by the tape.
func (b both) bits(t *testing.T, n int) {
	t.Helper()
	before := b.t.place
	want, ok := b.t.number(n)
	got, e := b.s.Bits(n)
	settle(t, b, before, got, e, unsigned(want), ok, fmt.Sprintf("Bits(%d)", n))
}

func (b both) below(t *testing.T, n uint64) {
	t.Helper()
	before := b.t.place
	want, ok := b.t.below(new(big.Int).SetUint64(n))
	got, e := b.s.Below(n)
	settle(t, b, before, got, e, unsigned(want), ok, fmt.Sprintf("Below(%d)", n))
}

func (b both) uniform(t *testing.T, n int, q uint32) {
	t.Helper()
	before := b.t.place
	list, ok := b.t.list(n, big.NewInt(int64(q)), 0)
	want := []uint32{}
	for _, v := range list {
		want = append(want, uint32(v))
	}
	got, e := b.s.Uniform(n, q)
	settle(t, b, before, got, e, want, ok, fmt.Sprintf("Uniform(%d, %d)", n, q))
}

func (b both) bounded(t *testing.T, n int, bound uint32) {
	t.Helper()
	before := b.t.place
	limit := big.NewInt(int64(bound))
	want, ok := b.t.list(n, limit.Add(limit, big.NewInt(int64(bound)+1)), int64(bound))
	got, e := b.s.Bounded(n, bound)
	settle(t, b, before, got, e, want, ok, fmt.Sprintf("Bounded(%d, %d)", n, bound))
}

func (b both) ternary(t *testing.T, n, h int) {
	t.Helper()
	before := b.t.place
	want, ok := b.t.ternary(n, h)
	got, e := b.s.Ternary(n, h)
	settle(t, b, before, got, e, want, ok, fmt.Sprintf("Ternary(%d, %d)", n, h))
}

func unsigned(v *big.Int) uint64 {
	if v == nil {
		return 0
	}
	return v.Uint64()
}

// equal compares results; all empty lists are equal.
func equal(a, b any) bool {
	x, y := reflect.ValueOf(a), reflect.ValueOf(b)
	if x.Kind() == reflect.Slice && x.Len() == 0 {
		return y.Len() == 0
	}
	return reflect.DeepEqual(a, b)
}

// checkPlace tests Taken and Left.
func checkPlace(t *testing.T, s *Supply, taken, left int, name string) {
	t.Helper()
	if s.Taken() != taken || s.Left() != left {
		t.Errorf("after %s: taken %d, left %d; want %d and %d", name, s.Taken(), s.Left(), taken, left)
	}
}

// checkAll tests a result without an error.
func checkAll[T any](t *testing.T, got T, e api.Errno, want T, name string) {
	t.Helper()
	if e != api.OK || !equal(got, want) {
		t.Errorf("%s: %v, error %d; want %v", name, got, e, want)
	}
}

// checkError tests that there is an error, and nothing beside it.
func checkError[T any](t *testing.T, got T, e, want api.Errno, format string, args ...any) {
	t.Helper()
	var zero T
	if e != want || !equal(got, zero) {
		t.Errorf("%s: %v, error %d; want error %d", fmt.Sprintf(format, args...), got, e, want)
	}
}

// drawn returns n bytes, in long runs of which all bits are alike now and then.
func drawn(r *rand.Rand, n int) string {
	b := make([]byte, n)
	r.Read(b)
	for range n / 16 {
		i := r.Intn(n)
		fill := []byte{0, 255}[r.Intn(2)]
		for j := i; j < min(n, i+r.Intn(12)); j++ {
			b[j] = fill
		}
	}
	return string(b)
}

// limits are numbers below which numbers are taken: all small ones, and those beside powers of 2.
func limits() []uint64 {
	list := []uint64{math.MaxUint64, math.MaxUint64 - 1, 3 << 62, 10000000000000000000}
	for n := range uint64(70) {
		list = append(list, n+1)
	}
	for k := 7; k < 64; k++ {
		p := uint64(1) << k
		list = append(list, p-1, p, p+1, p+p/2)
	}
	return list
}
