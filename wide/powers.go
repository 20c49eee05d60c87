package wide

import (
	"math/bits"

	"obscura/api"
)

// Shl returns a 2^k.
func Shl(a api.Wide, k int) (api.Wide, api.Errno) {
	if !inShift(k) {
		return api.Wide{}, api.ErrArg
	}
	return unary(a, func(x integer) integer { return signs(x.neg)(up(x.digits, k)) })
}

// Shr returns the greatest integer that is at most a / 2^k.
func Shr(a api.Wide, k int) (api.Wide, api.Errno) {
	if !inShift(k) {
		return api.Wide{}, api.ErrArg
	}
	return unary(a, func(x integer) integer {
		if x.neg {
			// What is rounded down has the greater absolute value: the quotient is rounded up.
			return signs(true)(plus(down(minus(x.digits, unit()), k), unit()))
		}
		return signs(false)(down(x.digits, k))
	})
}

// Pow returns a^k; a^0 is 1, also for a = 0.
func Pow(a api.Wide, k int) (api.Wide, api.Errno) {
	if !Valid(a) || !inShift(k) {
		return api.Wide{}, api.ErrArg
	}
	result, e := Of(1), api.OK
	// From the highest bit of k on no power exceeds the last one: if one is out of range, the last one is.
	for i := bits.Len(uint(k)) - 1; i >= 0 && e == api.OK; i-- {
		result, e = Mul(result, result)
		if e == api.OK && k>>i&1 == 1 {
			result, e = Mul(result, a)
		}
	}
	return result, e
}

// Sqrt returns the greatest integer whose square is at most a.
func Sqrt(a api.Wide) (api.Wide, api.Errno) {
	if a.Neg {
		return api.Wide{}, api.ErrArg
	}
	return unary(a, func(x integer) integer { return signs(false)(root(x.digits)) })
}

// inShift reports whether k may be a shift or an exponent.
func inShift(k int) bool { return k >= 0 && k <= api.MaxShift }

// root returns the greatest number whose square is at most a.
func root(a []uint32) []uint32 {
	if len(a) == 0 {
		return nil
	}
	// Newton's steps from a number above the root fall until they reach it.
	guess := trim(up(unit(), (length(a)+1)/2))
	for {
		quotient, _ := split(a, guess)
		next := down(plus(guess, quotient), 1)
		if compare(next, guess) >= 0 {
			return guess
		}
		guess = next
	}
}
