// Package modular is layer 1: residues modulo numbers below 2^31, primes, orders and roots of unity (see shared/doc/01-modular.md).
package modular

import "obscura/api"

// Add returns the residue of a + b.
func Add(a, b, n uint32) (uint32, api.Errno) {
	if !residues(n, a, b) {
		return 0, api.ErrArg
	}
	return sum(a, b, n), api.OK
}

// Sub returns the residue of a - b.
func Sub(a, b, n uint32) (uint32, api.Errno) {
	if !residues(n, a, b) {
		return 0, api.ErrArg
	}
	return sum(a, n-b, n), api.OK
}

// Mul returns the residue of a b.
func Mul(a, b, n uint32) (uint32, api.Errno) {
	if !residues(n, a, b) {
		return 0, api.ErrArg
	}
	return products(n)(a, b), api.OK
}

// Pow returns the residue of a^e; a^0 is 1, also for a = 0.
func Pow(a uint32, e uint64, n uint32) (uint32, api.Errno) {
	if !residues(n, a) {
		return 0, api.ErrArg
	}
	return power(a, e, products(n)), api.OK
}

// Inverse returns the residue b with a b = 1, or ErrNone if there is none.
func Inverse(a, n uint32) (uint32, api.Errno) {
	if !residues(n, a) {
		return 0, api.ErrArg
	}
	divisor, factor := bezout(int64(a), int64(n))
	if divisor != 1 {
		return 0, api.ErrNone
	}
	return reduce(factor, n), api.OK
}

// Of returns the residue of an integer.
func Of(v int64, n uint32) (uint32, api.Errno) {
	if !modulus(n) {
		return 0, api.ErrArg
	}
	return reduce(v, n), api.OK
}

// Balanced returns the balanced value of a residue.
func Balanced(a, n uint32) (int64, api.Errno) {
	if !residues(n, a) {
		return 0, api.ErrArg
	}
	v := int64(a)
	if 2*v > int64(n) {
		v -= int64(n)
	}
	return v, api.OK
}

// modulus reports whether n is one.
func modulus(n uint32) bool { return n >= 2 && n <= api.MaxMod }

// residues reports whether n is a modulus and each number of the list a residue modulo n.
func residues(n uint32, list ...uint32) bool {
	for _, a := range list {
		if a >= n {
			return false
		}
	}
	return modulus(n)
}

// sum adds two numbers of at most n; as n is below 2^31, 32 bits hold their sum.
func sum(a, b, n uint32) uint32 { return (a + b) % n }

// reduce returns the residue of v; the remainder of a negative number is negative in Go.
func reduce(v int64, n uint32) uint32 {
	rest := v % int64(n)
	if rest < 0 {
		rest += int64(n)
	}
	return uint32(rest)
}

// products returns the multiplication modulo n, which need not be a modulus: Prime goes up to 2^32 - 1.
func products(n uint32) func(a, b uint32) uint32 {
	return func(a, b uint32) uint32 { return uint32(uint64(a) * uint64(b) % uint64(n)) }
}

// power returns a^e for a multiplication modulo a number above 1.
func power(a uint32, e uint64, times func(a, b uint32) uint32) uint32 {
	result := uint32(1)
	for ; e > 0; e >>= 1 {
		if e&1 == 1 {
			result = times(result, a)
		}
		a = times(a, a)
	}
	return result
}

// bezout returns the greatest common divisor of a and n, and a number x such that a x is this divisor modulo n.
func bezout(a, n int64) (divisor, x int64) {
	// Modulo the first n, what is in a is always x times the first a, and what is in n is y times it.
	y := int64(0)
	x = 1
	for n != 0 {
		q := a / n
		a, n = n, a-q*n
		x, y = y, x-q*y
	}
	return a, x
}
