package sponge

import (
	"fmt"
	"math"
	"math/rand"
	"slices"
	"strings"
	"testing"

	"obscura/api"
)

// checkStream tests a stream.
func checkStream(t *testing.T, seed string, n int, want string) {
	t.Helper()
	got, e := Stream(seed, n)
	if got != want || e != api.OK {
		t.Errorf("Stream(%q, %d): %X, error %d; want %X", seed, n, got, e, want)
	}
}

// P11.4: all small lengths, of seeds and of streams.
func TestStream(t *testing.T) {
	r := rand.New(rand.NewSource(117))
	for _, seed := range strange(r, 20) {
		want := secondSponge(firstWord(1), seed, 100)
		for n := range 101 {
			checkStream(t, seed, n, want[:n])
		}
	}
}

// P11.4: a long seed, and long streams.
func TestLongStream(t *testing.T) {
	r := rand.New(rand.NewSource(118))
	for _, size := range []int{255, 256, 1000, 9999} {
		seed := drawn(r, size)
		want := secondSponge(firstWord(1), seed, 5000)
		for _, n := range []int{0, 1, 8, 4095, 4096, 4097, 4999, 5000} {
			checkStream(t, seed, n, want[:n])
		}
	}
}

// P11.4: the limit.
func TestStreamAtTheLimit(t *testing.T) {
	most, e := Stream("seed", api.MaxSupply)
	if len(most) != api.MaxSupply || e != api.OK {
		t.Fatalf("Stream of %d bytes has %d, error %d", api.MaxSupply, len(most), e)
	}
	// The only block is the seed and its padding.
	x, _ := Permute([5]uint64{firstWord(1)}, 12)
	x[0] ^= 0x7365656480000000
	x, _ = Permute(x, 12)
	for i := 0; i < len(most); i += 8 {
		if got, want := fmt.Sprintf("%x", most[i:i+8]), fmt.Sprintf("%016x", x[0]); got != want {
			t.Fatalf("the bytes %d to %d of the stream: %s; want %s", i, i+7, got, want)
		}
		x, _ = Permute(x, 12)
	}
	for _, n := range []int{api.MaxSupply - 1, api.MaxSupply - 7, api.MaxSupply - 8, api.MaxSupply - 9} {
		if got, e := Stream("seed", n); got != most[:n] || e != api.OK {
			t.Errorf("Stream of %d bytes is not the beginning, error %d", n, e)
		}
	}
}

// P11.4: other lengths; some are small modulo a power of 2.
func TestStreamOfNoLength(t *testing.T) {
	for _, n := range []int{math.MinInt, math.MinInt + 8, -1 << 32, -1<<32 + 8, -1 << 20, -9, -8, -7, -2, -1, 1<<20 + 1, 1<<20 + 8, 1 << 21, 1 << 31, 1 << 32, 1<<32 + 8, math.MaxInt} {
		for _, seed := range []string{"", "seed", strings.Repeat("s", 1000)} {
			if got, e := Stream(seed, n); got != "" || e != api.ErrArg {
				t.Errorf("Stream of %d bytes: %d bytes, error %d; want ErrArg", n, len(got), e)
			}
		}
	}
}

// P11.5: a shorter stream is the beginning of a longer one.
func TestStreamsBegin(t *testing.T) {
	r := rand.New(rand.NewSource(119))
	for range 20 {
		seed := drawn(r, r.Intn(60))
		before := ""
		for n := range 400 {
			got, e := Stream(seed, n)
			if len(got) != n || got[:len(before)] != before || e != api.OK {
				t.Fatalf("Stream(%q, %d): %X, error %d; it does not begin with %X", seed, n, got, e, before)
			}
			before = got
		}
	}
}

// P11.2, P11.4: digests and streams have different kinds.
func TestKinds(t *testing.T) {
	r := rand.New(rand.NewSource(120))
	for _, s := range strange(r, 20) {
		if stream, _ := Stream(s, 32); stream == Digest(s) || stream[:8] == Short(s) {
			t.Errorf("the stream of %q is its digest", s)
		}
	}
}

// results calls all functions.
func results(s string, x [5]uint64, l []string) []string {
	y, e1 := Permute(x, 1+len(s)%12)
	stream, e2 := Stream(s, 50)
	return []string{Digest(s), Short(s), List(byte(len(s)), l), stream, fmt.Sprint(y, e1, e2)}
}

// R3, R6: results depend on the arguments alone, which do not change, whatever was called before and however a list lies in memory.
func TestResultsDependOnArguments(t *testing.T) {
	r := rand.New(rand.NewSource(121))
	for range 100 {
		s, x, l := drawn(r, r.Intn(40)), drawnWords(r), []string{drawn(r, r.Intn(9)), "", drawn(r, 8)}
		room := append(make([]string, 0, 10), l...)
		want := results(s, x, l)
		Stream(s, -1)
		Permute(x, 0)
		results(drawn(r, 20), drawnWords(r), nil)
		if got := results(s, x, room); !slices.Equal(got, want) {
			t.Fatalf("for %q, %X, %q: %q; want %q", s, x, l, got, want)
		}
		if !slices.Equal(room, l) || !slices.Equal(room[:10][3:], make([]string, 7)) {
			t.Fatalf("the list %q is changed to %q", l, room[:10])
		}
	}
}

// R6: calls at the same time have the same results.
func TestCallsAtTheSameTime(t *testing.T) {
	want := results("seed", [5]uint64{1, 2, 3}, []string{"a", "b"})
	done := make(chan []string)
	for range 8 {
		go func() { done <- results("seed", [5]uint64{1, 2, 3}, []string{"a", "b"}) }()
	}
	for range 8 {
		if got := <-done; !slices.Equal(got, want) {
			t.Errorf("%q; want %q", got, want)
		}
	}
}
