package factor

import (
	"iter"

	"obscura/poly"
)

// All polynomials here are valid modulo p and so short that the calls of layer 5 have no errors.

// split returns the irreducible factors of f modulo p; f is monic, and its factors are different and of the degree d.
func split(f []uint32, p uint32, d int) [][]uint32 {
	var list [][]uint32
	var add func(f []uint32)
	add = func(f []uint32) {
		if len(f) == d+1 {
			list = append(list, f)
			return
		}
		g, h := parts(f, p, d)
		add(g)
		add(h)
	}
	add(f)
	return list
}

// parts returns two monic polynomials of lesser degrees whose product is f, which has several factors of the degree d.
func parts(f []uint32, p uint32, d int) (g, h []uint32) {
	for a := range candidates(p) {
		// The factors modulo which a is a square, and not 0, are those of g.
		less, _ := poly.Sub(p, character(a, f, p, d), []uint32{1})
		g, _ = poly.Gcd(p, f, less)
		if len(g) > 1 && len(g) < len(f) {
			h, _, _ = poly.DivMod(p, f, g)
			break
		}
	}
	return g, h
}

// character returns the remainder of a^((p^d - 1) / 2) on division by f. Modulo a factor of f, which makes a field of p^d elements, it is 1 for a square, -1 for what is no square, and 0 for 0.
func character(a, f []uint32, p uint32, d int) []uint32 {
	// p^d may have 256 bits. The exponent is (p - 1) / 2 times 1 + p + .. + p^(d-1), which is 1 + p (1 + p (..)).
	norm := a
	for range d - 1 {
		power, _ := poly.PowMod(p, norm, uint64(p), f)
		norm, _ = poly.Mul(p, power, a)
	}
	result, _ := poly.PowMod(p, norm, uint64(p-1)/2, f)
	return result
}

// candidates yields the monic polynomials modulo p from x on, those of the least degrees first. The receiver must not keep them.
//
// For each f with several factors of the degree d, one of them is a square, and not 0, modulo some of the factors only; its degree is below that of f. If d is 1, take two of the roots, y and z: the quotient of y + c and z + c takes, for the numbers c but -z, all values but 1, so it is no square for one of them, and then just one of y + c and z + c is a square. Otherwise some polynomial is 1 modulo one factor and no square modulo the others. It is no number, as d is even, so that all numbers are squares in the field of p^d elements; therefore it may also be divided by its last element.
func candidates(p uint32) iter.Seq[[]uint32] {
	return func(yield func([]uint32) bool) {
		for a := []uint32{0, 1}; yield(a); a = next(a, p) {
		}
	}
}

// next returns the monic polynomial behind a, in whose memory it may be: the elements before the last one count up, the first one the fastest.
func next(a []uint32, p uint32) []uint32 {
	last := len(a) - 1
	for i := range last {
		a[i]++
		if a[i] < p {
			return a
		}
		a[i] = 0
	}
	a[last] = 0
	return append(a, 1)
}
