package poly

import "obscura/api"

// divisor is a polynomial whose last element is a unit, with the inverse of that element.
type divisor struct {
	modulus
	b          []uint32
	reciprocal uint32
}

// divisor returns b as one, or ErrRange if it is none.
func (m modulus) divisor(b []uint32) (divisor, api.Errno) {
	if len(b) == 0 {
		return divisor{}, api.ErrRange
	}
	reciprocal, e := m.inverse(b[len(b)-1])
	return divisor{m, b, reciprocal}, e
}

// divide returns the quotient of a and the rest, which has fewer elements than the divisor.
func (d divisor) divide(a []uint32) (q, r []uint32) {
	r = append(r, a...)
	if len(a) < len(d.b) {
		return nil, r
	}
	last := len(d.b) - 1
	q = make([]uint32, len(a)-last)
	for i := len(q) - 1; i >= 0; i-- {
		q[i] = d.plus(0, r[i+last], d.reciprocal)
		d.add(r[i:], d.less(0, q[i]), d.b)
	}
	return q, trimmed(r[:last])
}

// rest returns the remainder of a.
func (d divisor) rest(a []uint32) []uint32 {
	_, r := d.divide(a)
	return r
}

// power returns the remainder of a^n.
func (d divisor) power(a []uint32, n uint64) []uint32 {
	square, result := a, d.rest([]uint32{1})
	for ; n > 0; n >>= 1 {
		if n&1 == 1 {
			result = d.rest(d.product(result, square))
		}
		square = d.rest(d.product(square, square))
	}
	return result
}
