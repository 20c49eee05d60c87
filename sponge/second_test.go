package sponge

import (
	"encoding/binary"
	"math/big"
	"math/rand"
	"slices"
	"strings"
	"testing"
)

// The second way goes bit by bit: the five bits of a column are replaced by a table, and the bits of a word are found by their places.

// columns has the five bits that the steps 2 to 4 make of five bits; the bit of x0 is the highest one.
var columns = [32]byte{4, 11, 31, 20, 26, 21, 9, 2, 27, 5, 8, 18, 29, 3, 6, 28, 30, 19, 7, 14, 0, 13, 17, 24, 16, 12, 1, 25, 22, 10, 15, 23}

// turns are the numbers of step 5.
var turns = [5][2]int{{19, 28}, {61, 39}, {1, 6}, {10, 17}, {7, 41}}

// constant returns the constant of a round: its first digit goes down from F, its second one up from 0.
func constant(round int) uint64 { return uint64(16*(15-round) + round) }

// replaced replaces the bits of each column by a table.
func replaced(x [5]uint64, table [32]byte) [5]uint64 {
	var y [5]uint64
	for place := range 64 {
		column := 0
		for _, w := range x {
			column = 2*column + int(w>>place&1)
		}
		for i := range y {
			y[i] |= uint64(table[column]>>(4-i)&1) << place
		}
	}
	return y
}

// mixed does step 5.
func mixed(x [5]uint64) [5]uint64 {
	var y [5]uint64
	for i, w := range x {
		for place := range 64 {
			bit := w>>place ^ w>>((place+turns[i][0])%64) ^ w>>((place+turns[i][1])%64)
			y[i] |= bit & 1 << place
		}
	}
	return y
}

// secondPermute is the permutation.
func secondPermute(x [5]uint64, rounds int) [5]uint64 {
	for i := 12 - rounds; i < 12; i++ {
		x[2] ^= constant(i)
		x = mixed(replaced(x, columns))
	}
	return x
}

// secondInverse undoes the permutation. Step 5 multiplies by a polynomial of three powers modulo z^64 + 1 with the coefficients modulo 2; its power 64 is 1, so that 63 more multiplications undo one.
func secondInverse(x [5]uint64, rounds int) [5]uint64 {
	var back [32]byte
	for from, to := range columns {
		back[to] = byte(from)
	}
	for i := 11; i >= 12-rounds; i-- {
		for range 63 {
			x = mixed(x)
		}
		x = replaced(x, back)
		x[2] ^= constant(i)
	}
	return x
}

// secondSponge returns n bytes of the sponge whose first word is given, with all 12 rounds.
func secondSponge(first uint64, s string, n int) string {
	full := s + "\x80"
	for len(full)%8 != 0 {
		full += "\x00"
	}
	x := secondPermute([5]uint64{first}, 12)
	for ; full != ""; full = full[8:] {
		x[0] ^= binary.BigEndian.Uint64([]byte(full[:8]))
		x = secondPermute(x, 12)
	}
	result := ""
	for len(result) < n {
		result += string(binary.BigEndian.AppendUint64(nil, x[0]))
		x = secondPermute(x, 12)
	}
	return result[:n]
}

// firstWord is the first word of the sponge of a kind.
func firstWord(kind byte) uint64 {
	return binary.BigEndian.Uint64([]byte("obscura\x00")) + uint64(kind)
}

// secondList is the string from which List computes a digest.
func secondList(domain byte, l []string) string {
	full := string([]byte{domain})
	add := func(n int) { full += string(binary.BigEndian.AppendUint32(nil, uint32(n))) }
	add(len(l))
	for _, s := range l {
		add(len(s))
		full += s
	}
	return full
}

// The second way is right: with other first words, these are the published hash and stream of the permutation's authors for the empty string and for a byte 0.
func TestSecondWay(t *testing.T) {
	for _, c := range []struct {
		first   uint64
		s, want string
	}{
		{0x00400C0000000100, "", "7346BC14F036E87AE03D0997913088F5F68411434B3CF8B54FA796A80D251F91"},
		{0x00400C0000000100, "\x00", "8DD446ADA58A7740ECF56EB638EF775F7D5C0FD5F0C2BBBDFDEC29609D3C43A2"},
		{0x00400C0000000000, "", "5D4CBDE6350EA4C174BD65B5B332F8408F99740B81AA02735EAEFBCF0BA0339E"},
	} {
		want, _ := new(big.Int).SetString(c.want, 16)
		if got := secondSponge(c.first, c.s, 32); got != string(want.Bytes()) {
			t.Errorf("%X of %q: %X; want %s", c.first, c.s, got, c.want)
		}
	}
	want := [5]uint64{0xEE9398AADB67F03D, 0x8BB21831C60F1002, 0xB48A92DB98D5DA62, 0x43189921B8F8E3E8, 0x348FA5C9D525E140}
	if got := secondPermute([5]uint64{0x00400C0000000100}, 12); got != want {
		t.Errorf("the first words: %X; want %X", got, want)
	}
}

// states are all words of one bit, some regular ones, and some that are drawn.
func states(r *rand.Rand) [][5]uint64 {
	full := ^uint64(0)
	list := [][5]uint64{{}, {full, full, full, full, full}, {0, full, 0, full, 0}, {1, 2, 3, 4, 5}, {firstWord(0)}, {firstWord(1)}}
	for i := range 5 {
		for place := range 64 {
			var one [5]uint64
			one[i] = 1 << place
			list = append(list, one)
		}
		var word [5]uint64
		word[i] = full
		list = append(list, word)
	}
	for range 100 {
		list = append(list, drawnWords(r))
	}
	return list
}

func drawnWords(r *rand.Rand) [5]uint64 {
	return [5]uint64{r.Uint64(), r.Uint64(), r.Uint64(), r.Uint64(), r.Uint64()}
}

// drawn returns n bytes.
func drawn(r *rand.Rand, n int) string {
	b := make([]byte, n)
	r.Read(b)
	return string(b)
}

// strange are strings of all small lengths: bytes that are drawn, zeros, bytes 80, bytes 255, and those that end like padding.
func strange(r *rand.Rand, most int) []string {
	var list []string
	for n := range most + 1 {
		list = append(list, drawn(r, n))
		for _, b := range []string{"\x00", "\x80", "\xFF", "a"} {
			list = append(list, strings.Repeat(b, n))
		}
		list = append(list, drawn(r, n)+"\x80", drawn(r, n)+"\x80\x00\x00")
	}
	list = append(list, "seed", "a word of 18 bytes", "\u00e4\u20ac\U0001F600", "\xC3\x28 is no text")
	slices.Sort(list)
	return slices.Compact(list)
}
