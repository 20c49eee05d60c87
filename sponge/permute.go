package sponge

import (
	"math/bits"

	"obscura/api"
)

// allRounds is the number of the rounds that there are.
const allRounds = 12

// constants are those of the rounds.
var constants = [allRounds]uint64{0xF0, 0xE1, 0xD2, 0xC3, 0xB4, 0xA5, 0x96, 0x87, 0x78, 0x69, 0x5A, 0x4B}

// Permute returns the words after the permutation with a number of rounds.
func Permute(x [5]uint64, rounds int) ([5]uint64, api.Errno) {
	if rounds < 1 || rounds > allRounds {
		return [5]uint64{}, api.ErrArg
	}
	return permuted(x, rounds), api.OK
}

// permuted returns the words after the last rounds of all, of which there are so many.
func permuted(x [5]uint64, rounds int) [5]uint64 {
	for i := allRounds - rounds; i < allRounds; i++ {
		x = round(x, constants[i])
	}
	return x
}

// round returns the words after a round. Each step is one assignment, because the values of an assignment are all computed before one of them is set.
func round(x [5]uint64, c uint64) [5]uint64 {
	x0, x1, x2, x3, x4 := x[0], x[1], x[2], x[3], x[4]
	x2 ^= c
	x0, x4, x2 = x0^x4, x4^x3, x2^x1
	x0, x1, x2, x3, x4 = x0^(^x1&x2), x1^(^x2&x3), x2^(^x3&x4), x3^(^x4&x0), x4^(^x0&x1)
	x1, x0, x3, x2 = x1^x0, x0^x4, x3^x2, ^x2
	return [5]uint64{
		x0 ^ right(x0, 19) ^ right(x0, 28),
		x1 ^ right(x1, 61) ^ right(x1, 39),
		x2 ^ right(x2, 1) ^ right(x2, 6),
		x3 ^ right(x3, 10) ^ right(x3, 17),
		x4 ^ right(x4, 7) ^ right(x4, 41),
	}
}

// right returns a word with its bits moved to the right by k; those that fall out come in again on the left.
func right(x uint64, k int) uint64 { return bits.RotateLeft64(x, -k) }
