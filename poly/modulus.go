package poly

import (
	"obscura/api"
	"obscura/modular"
)

// modulus is a number modulo which polynomials of any length are calculated.
type modulus uint32

// valid reports whether m is one.
func (m modulus) valid() bool { return m >= 2 && m <= api.MaxMod }

// has reports whether all numbers of a list are residues.
func (m modulus) has(list []uint32) bool {
	for _, a := range list {
		if a >= uint32(m) {
			return false
		}
	}
	return true
}

// less returns the residue of a - b.
func (m modulus) less(a, b uint32) uint32 { return m.plus(a, uint32(m)-1, b) }

// plus returns the residue of a + k b, which is below 2^63 for residues.
func (m modulus) plus(a, k, b uint32) uint32 {
	return uint32((uint64(a) + uint64(k)*uint64(b)) % uint64(m))
}

// inverse returns the residue whose product with a is 1, or ErrRange if a is no unit.
func (m modulus) inverse(a uint32) (uint32, api.Errno) {
	b, e := modular.Inverse(a, uint32(m))
	if e != api.OK {
		return 0, api.ErrRange
	}
	return b, api.OK
}

// add adds k b to the first elements of a list, which has as many as b or more.
func (m modulus) add(list []uint32, k uint32, b []uint32) {
	for i, c := range b {
		list[i] = m.plus(list[i], k, c)
	}
}

// sum returns a + k b.
func (m modulus) sum(a []uint32, k uint32, b []uint32) []uint32 {
	list := make([]uint32, max(len(a), len(b)))
	copy(list, a)
	m.add(list, k, b)
	return trimmed(list)
}

// product returns a b.
func (m modulus) product(a, b []uint32) []uint32 {
	list := make([]uint32, len(a)+len(b))
	for i, c := range a {
		m.add(list[i:], c, b)
	}
	return trimmed(list)
}

// value returns the value of a polynomial at x.
func (m modulus) value(a []uint32, x uint32) uint32 {
	v := uint32(0)
	for i := len(a) - 1; i >= 0; i-- {
		v = m.plus(a[i], v, x)
	}
	return v
}

// wrapped returns the n coefficients of a modulo x^n + 1.
func (m modulus) wrapped(a []uint32, n int) []uint32 {
	list := make([]uint32, n)
	sign := uint32(1)
	for len(a) > 0 {
		k := min(n, len(a))
		m.add(list, sign, a[:k])
		a = a[k:]
		// x^n is -1.
		sign = uint32(m) - sign
	}
	return list
}

// common returns the greatest common divisor of a and b modulo a prime, with the last element 1 unless both are empty.
func (m modulus) common(a, b []uint32) []uint32 {
	for len(b) > 0 {
		// Modulo a prime every last element is a unit.
		d, _ := m.divisor(b)
		_, rest := d.divide(a)
		a, b = b, rest
	}
	if len(a) == 0 {
		return nil
	}
	last, _ := m.inverse(a[len(a)-1])
	return m.sum(nil, last, a)
}

// trimmed returns a list without the zeros at its end.
func trimmed(a []uint32) []uint32 {
	n := len(a)
	for n > 0 && a[n-1] == 0 {
		n--
	}
	return a[:n]
}
