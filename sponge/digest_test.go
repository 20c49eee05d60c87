package sponge

import (
	"fmt"
	"math/rand"
	"slices"
	"strings"
	"testing"
)

// checkString tests a result that is a string.
func checkString(t *testing.T, got, want string, format string, args ...any) {
	t.Helper()
	if got != want {
		t.Errorf("%s: %X; want %X", fmt.Sprintf(format, args...), got, want)
	}
}

// P11.2: strings of all small lengths.
func TestDigest(t *testing.T) {
	r := rand.New(rand.NewSource(114))
	for _, s := range strange(r, 40) {
		want := secondSponge(firstWord(0), s, 32)
		checkString(t, Digest(s), want, "Digest(%q)", s)
		checkString(t, Short(s), want[:8], "Short(%q)", s)
	}
}

// P11.2: long strings, with lengths beside multiples of 8.
func TestDigestOfLongStrings(t *testing.T) {
	r := rand.New(rand.NewSource(115))
	for _, n := range []int{255, 256, 257, 1023, 1024, 4095, 10000, 10001} {
		s := drawn(r, n)
		want := secondSponge(firstWord(0), s, 32)
		checkString(t, Digest(s), want, "Digest of %d bytes", n)
		checkString(t, Short(s), want[:8], "Short of %d bytes", n)
	}
}

// P11.2: a string of millions of bytes, of which each one counts.
func TestDigestOfMillions(t *testing.T) {
	b := []byte(strings.Repeat("obscura!", 1<<18+1))
	whole := Digest(string(b))
	if len(whole) != 32 || whole[:8] != Short(string(b)) {
		t.Errorf("Digest: %X; Short: %X", whole, Short(string(b)))
	}
	for _, i := range []int{0, 7, 8, 1 << 16, 1 << 20, 1 << 21, len(b) - 1} {
		b[i] ^= 1
		if Digest(string(b)) == whole {
			t.Errorf("the byte %d does not count", i)
		}
		b[i] ^= 1
	}
	checkString(t, Digest(string(b)), whole, "Digest again")
}

// P11.2: the lengths.
func TestLengths(t *testing.T) {
	for n := range 100 {
		s := strings.Repeat("x", n)
		if len(Digest(s)) != 32 || len(Short(s)) != 8 || len(List(0, []string{s})) != 32 {
			t.Errorf("lengths for %d bytes: %d, %d, %d; want 32, 8, 32", n, len(Digest(s)), len(Short(s)), len(List(0, []string{s})))
		}
	}
}

// P11.6: strings of at most two bytes, and those with bytes of padding behind them, have different digests.
func TestDifferentDigests(t *testing.T) {
	var list []string
	for i := range 256 {
		list = append(list, string([]byte{byte(i)}))
		for j := range 256 {
			list = append(list, string([]byte{byte(i), byte(j)}))
		}
	}
	for n := range 30 {
		zeros := strings.Repeat("\x00", n)
		list = append(list, zeros, zeros+"\x80", "\x80"+zeros, "obscura"+zeros, "obscura\x80"+zeros)
	}
	slices.Sort(list)
	list = slices.Compact(list)
	checkDifferent(t, list, Digest)
	checkDifferent(t, list, func(s string) string { v, _ := Stream(s, 32); return v })
}

// checkDifferent tests that a function has different results for different arguments.
func checkDifferent(t *testing.T, list []string, digest func(string) string) {
	t.Helper()
	seen := map[string]string{}
	for _, s := range list {
		d := digest(s)
		if other, ok := seen[d]; ok || len(d) != 32 {
			t.Fatalf("%q has %X, as %q", s, d, other)
		}
		seen[d] = s
	}
}

// P11.3: the chapter's example.
func TestListExample(t *testing.T) {
	checkString(t, List(7, []string{"a", ""}), Digest("\x07\x00\x00\x00\x02\x00\x00\x00\x01a\x00\x00\x00\x00"), "List(7, a, nothing)")
}

// P11.3: all domains, and lists of all small numbers of strings.
func TestList(t *testing.T) {
	r := rand.New(rand.NewSource(116))
	for domain := range 256 {
		for n := range 6 {
			var l []string
			for range n {
				l = append(l, drawn(r, r.Intn(20)))
			}
			full := secondList(byte(domain), l)
			checkString(t, List(byte(domain), l), Digest(full), "List(%d, %q)", domain, l)
			if domain%16 == 0 {
				checkString(t, List(byte(domain), l), secondSponge(firstWord(0), full, 32), "List(%d, %q)", domain, l)
			}
		}
	}
}

// P11.3: each of the four bytes of a length and of a number counts.
func TestListOfMany(t *testing.T) {
	for _, n := range []int{255, 256, 257, 65535, 65536, 65537, 1<<24 - 1, 1 << 24, 1<<24 + 258} {
		long := []string{strings.Repeat("y", n), "z"}
		checkString(t, List(3, long), Digest(secondList(3, long)), "List of %d bytes", n)
		if n < 1<<17 {
			many := "\x04" + string([]byte{0, byte(n >> 16), byte(n >> 8), byte(n)}) + strings.Repeat("\x00\x00\x00\x01x", n)
			checkString(t, List(4, slices.Repeat([]string{"x"}, n)), Digest(many), "List of %d strings", n)
		}
	}
}

// R4: nil and an empty list are the same.
func TestListOfNothing(t *testing.T) {
	for domain := range 256 {
		want := Digest(string([]byte{byte(domain), 0, 0, 0, 0}))
		checkString(t, List(byte(domain), nil), want, "List(%d, nil)", domain)
		checkString(t, List(byte(domain), []string{}), want, "List(%d, empty)", domain)
	}
}

// P11.6: lists of the same bytes, and of the same strings in other domains, have different digests.
func TestDifferentLists(t *testing.T) {
	lists := [][]string{nil}
	parts := []string{"", "a", "b", "ab", "aa", "\x00", "\x00\x00\x00\x00", "\x00\x00\x00\x01a"}
	for _, a := range parts {
		lists = append(lists, []string{a})
		for _, b := range parts {
			lists = append(lists, []string{a, b})
			for _, c := range parts {
				lists = append(lists, []string{a, b, c})
			}
		}
	}
	seen := map[string]string{}
	for _, domain := range []byte{0, 1, 2, 127, 128, 255} {
		for _, l := range lists {
			name, d := fmt.Sprintf("%d, %q", domain, l), List(domain, l)
			if other, ok := seen[d]; ok {
				t.Fatalf("List(%s) is List(%s)", name, other)
			}
			seen[d] = name
		}
	}
}

// P11.6: List does not compute from the bytes of the strings alone.
func TestListIsNotItsBytes(t *testing.T) {
	for _, l := range [][]string{{"ab"}, {"a", "b"}, {"", "ab"}, {"ab", ""}} {
		for _, other := range []string{strings.Join(l, ""), "\x01" + strings.Join(l, "")} {
			if List(1, l) == Digest(other) {
				t.Errorf("List(1, %q) is the digest of %q", l, other)
			}
		}
	}
}
