package wide

import (
	"cmp"
	"math/bits"
	"slices"

	"obscura/api"
)

// Absolute values are digits to the base 2^32, the lowest first, and without zeros at the top where nothing else is said. The functions return new digits, unless they return a part of their argument.

// maxDigits is the number of digits of the greatest valid form.
const maxDigits = api.MaxWide / 4

// columns are the digits of a product of two numbers of at most maxDigits digits.
type columns [2 * maxDigits]uint32

// unit returns the digits of 1.
func unit() []uint32 { return []uint32{1} }

// trim leaves out the zeros at the top.
func trim(a []uint32) []uint32 {
	for len(a) > 0 && a[len(a)-1] == 0 {
		a = a[:len(a)-1]
	}
	return a
}

// length returns the number of binary digits.
func length(a []uint32) int {
	if len(a) == 0 {
		return 0
	}
	return 32*(len(a)-1) + bits.Len32(a[len(a)-1])
}

// compare returns -1, 0 or 1 as a is less than, equal to, or greater than b.
func compare(a, b []uint32) int {
	if len(a) != len(b) {
		return cmp.Compare(len(a), len(b))
	}
	for i := len(a) - 1; i >= 0; i-- {
		if a[i] != b[i] {
			return cmp.Compare(a[i], b[i])
		}
	}
	return 0
}

// plus returns a + b.
func plus(a, b []uint32) []uint32 {
	if len(a) < len(b) {
		a, b = b, a
	}
	result := append(slices.Clone(a), 0)
	addTo(result, b)
	return trim(result)
}

// addTo adds b to a, which is at least as long, and reports whether one remains to be carried.
func addTo(a, b []uint32) bool {
	carry := uint32(0)
	for i := range a {
		digit := uint32(0)
		if i < len(b) {
			digit = b[i]
		}
		a[i], carry = bits.Add32(a[i], digit, carry)
	}
	return carry > 0
}

// minus returns a - b for b of at most a.
func minus(a, b []uint32) []uint32 {
	result := slices.Clone(a)
	takeFrom(result, b, 1)
	return trim(result)
}

// takeFrom subtracts b times a factor from a, which is at least as long, and reports whether one remains to be borrowed at the top.
func takeFrom(a, b []uint32, factor uint32) bool {
	taken := uint64(0)
	for i := range a {
		if i < len(b) {
			taken += uint64(b[i]) * uint64(factor)
		}
		digit, borrow := bits.Sub32(a[i], uint32(taken), 0)
		a[i] = digit
		taken = taken>>32 + uint64(borrow)
	}
	return taken > 0
}

// times returns a b, for numbers of at most maxDigits digits.
func times(a, b []uint32) []uint32 {
	var total columns
	for i, digit := range a {
		total = withRow(total, b, digit, i)
	}
	return trim(slices.Clone(total[:len(a)+len(b)]))
}

// withRow adds b times a digit to the columns from the place at on; the column above the row is still 0.
func withRow(total columns, b []uint32, digit uint32, at int) columns {
	carry := uint64(0)
	for i, d := range b {
		carry += uint64(total[at+i]) + uint64(d)*uint64(digit)
		total[at+i] = uint32(carry)
		carry >>= 32
	}
	total[at+len(b)] = uint32(carry)
	return total
}

// scaled returns a times a factor plus an addend.
func scaled(a []uint32, factor, addend uint32) []uint32 {
	result := make([]uint32, len(a)+1)
	carry := uint64(addend)
	for i, d := range a {
		carry += uint64(d) * uint64(factor)
		result[i] = uint32(carry)
		carry >>= 32
	}
	result[len(a)] = uint32(carry)
	return trim(result)
}

// up returns a 2^k with zeros at the top: it has a digit more than a and the whole digits of k.
func up(a []uint32, k int) []uint32 {
	result := make([]uint32, len(a)+k/32+1)
	for i, d := range a {
		pair := uint64(d) << (k % 32)
		result[i+k/32] |= uint32(pair)
		result[i+k/32+1] = uint32(pair >> 32)
	}
	return result
}

// down returns the greatest number that is at most a / 2^k.
func down(a []uint32, k int) []uint32 {
	if k/32 >= len(a) {
		return nil
	}
	a = a[k/32:]
	result := make([]uint32, len(a))
	for i, d := range a {
		pair := uint64(d)
		if i+1 < len(a) {
			pair |= uint64(a[i+1]) << 32
		}
		result[i] = uint32(pair >> (k % 32))
	}
	return trim(result)
}

// splitDigit divides a by a digit that is not 0.
func splitDigit(a []uint32, by uint32) (quotient []uint32, rest uint32) {
	quotient = make([]uint32, len(a))
	for i := len(a) - 1; i >= 0; i-- {
		pair := uint64(rest)<<32 | uint64(a[i])
		quotient[i] = uint32(pair / uint64(by))
		rest = uint32(pair % uint64(by))
	}
	return trim(quotient), rest
}

// split divides a by b, which is not 0.
func split(a, b []uint32) (quotient, rest []uint32) {
	if len(a) < len(b) {
		return nil, a
	}
	// Both are moved up until the highest bit of the divisor is set: then digits can be guessed.
	shift := bits.LeadingZeros32(b[len(b)-1])
	divisor := trim(up(b, shift))
	rest = up(a, shift)
	quotient = make([]uint32, len(a)-len(b)+1)
	for i := len(a) - len(b); i >= 0; i-- {
		quotient[i] = takeOut(rest[i:i+len(b)+1], divisor)
	}
	return trim(quotient), down(trim(rest), shift)
}

// takeOut takes the divisor out of a number with a digit more, as often as possible, and returns how often; that is a digit, and the highest bit of the divisor is set.
func takeOut(rest, divisor []uint32) uint32 {
	top := len(divisor)
	pair := uint64(rest[top])<<32 | uint64(rest[top-1])
	// The quotient of the highest digits is never too small, and at most 2 too great.
	guess := uint32(min(pair/uint64(divisor[top-1]), 1<<32-1))
	missing := takeFrom(rest, divisor, guess)
	for missing {
		guess--
		missing = !addTo(rest, divisor)
	}
	return guess
}
