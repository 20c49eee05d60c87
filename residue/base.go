package residue

import "obscura/modular"

// base holds the primes of a system in its order: they are odd and different.
//
// Its integers are calculated by digits of mixed radix: the first digit, plus the first prime times the second one, plus the product of the first two primes times the third one, and so on. Each digit is balanced modulo its prime. As the primes are odd, the integers with such digits are just those from -(Q - 1) / 2 to (Q - 1) / 2, so that a sign needs nothing else.
type base []uint32

// row returns a row, of which a function gives the residue for each prime.
func (l base) row(residue func(i int, p uint32) uint32) []uint32 {
	r := make([]uint32, len(l))
	for i, p := range l {
		r[i] = residue(i, p)
	}
	return r
}

// holds reports whether r is a row.
func (l base) holds(r []uint32) bool {
	if len(r) != len(l) {
		return false
	}
	for i, a := range r {
		if a >= l[i] {
			return false
		}
	}
	return true
}

// digits returns the digits of the integer for which a row stands.
func (l base) digits(r []uint32) []int64 {
	var known []int64
	next := func(i int) int64 {
		// Modulo its prime, what the known digits leave of the integer is the next digit times its weight.
		left := int64(r[i]) - int64(l.value(known, l[i]))
		weight := l[:i].product(l[i])
		return balanced(quotient(left, int64(weight), l[i]), l[i])
	}
	for i := range l {
		known = append(known, next(i))
	}
	return known
}

// value returns the residue modulo p of the integer with the digits.
func (l base) value(digits []int64, p uint32) uint32 {
	sum := uint32(0)
	for i := len(digits) - 1; i >= 0; i-- {
		// The factors are below 2^31 and the digit is below 2^30, so 63 bits hold the sum.
		sum = reduced(int64(sum)*int64(l[i])+digits[i], p)
	}
	return sum
}

// product returns the residue modulo p of the product of the primes.
func (l base) product(p uint32) uint32 {
	result := uint32(1)
	for _, q := range l {
		result = reduced(int64(result)*int64(q), p)
	}
	return result
}

// divide returns the residues of (x - d) / q modulo all primes but the last one, q, and d, the integer of least absolute value that is x modulo q and 0 modulo t; q does not divide t.
func (l base) divide(r []uint32, t uint32) (row []uint32, d int64) {
	last := len(l) - 1
	q := l[last]
	// The other factor is below 2^30 and t below 2^31, so 63 bits hold d and its difference to a residue.
	d = int64(t) * balanced(quotient(int64(r[last]), int64(t), q), q)
	row = l[:last].row(func(i int, p uint32) uint32 {
		return quotient(int64(r[i])-d, int64(q), p)
	})
	return row, d
}

// reduced returns the residue of v modulo the prime p.
func reduced(v int64, p uint32) uint32 {
	a, _ := modular.Of(v, p)
	return a
}

// balanced returns the balanced value of a residue modulo the prime p.
func balanced(a, p uint32) int64 {
	v, _ := modular.Balanced(a, p)
	return v
}

// quotient returns the residue of v / w modulo the prime p, which does not divide w.
func quotient(v, w int64, p uint32) uint32 {
	inverse, _ := modular.Inverse(reduced(w, p), p)
	a, _ := modular.Mul(reduced(v, p), inverse, p)
	return a
}
