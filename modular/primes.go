package modular

import (
	"iter"

	"obscura/api"
)

// maxDivisor is the greatest number that has to be tried: its successor's square is 2^32.
const maxDivisor = 1<<16 - 1

// Prime reports whether n is a prime.
func Prime(n uint32) bool {
	if n < 2 || n%2 == 0 {
		return n == 2
	}
	// These bases suffice below 4759123141.
	for _, base := range [...]uint32{2, 7, 61} {
		if !strong(n, base) {
			return false
		}
	}
	return true
}

// Factors returns the primes that divide n with their exponents, ascending.
func Factors(n uint32) ([]api.Power, api.Errno) {
	if n == 0 {
		return nil, api.ErrArg
	}
	var list []api.Power
	rest := n
	for d := range divisors() {
		if d > rest/d {
			break
		}
		exponent := 0
		for ; rest%d == 0; rest /= d {
			exponent++
		}
		if exponent > 0 {
			list = append(list, api.Power{Prime: d, Exponent: exponent})
		}
	}
	// No number up to its square root divides what is left.
	if rest > 1 {
		list = append(list, api.Power{Prime: rest, Exponent: 1})
	}
	return list, api.OK
}

// divisors yields 2 and the odd numbers, ascending.
func divisors() iter.Seq[uint32] {
	return func(yield func(uint32) bool) {
		if !yield(2) {
			return
		}
		for d := uint32(3); d <= maxDivisor; d += 2 {
			if !yield(d) {
				return
			}
		}
	}
}

// strong reports whether an odd n above 1 passes the strong test to a prime base.
func strong(n, base uint32) bool {
	// A prime base is 0 modulo n only if n is the base itself.
	if base%n == 0 {
		return true
	}
	odd, twos := n-1, 0
	for ; odd%2 == 0; odd /= 2 {
		twos++
	}
	times := products(n)
	x := power(base%n, uint64(odd), times)
	if x == 1 {
		return true
	}
	for range twos {
		if x == n-1 {
			return true
		}
		x = times(x, x)
	}
	return false
}
