package slots

import "obscura/modular"

// modulus is a plain modulus, p^r.
type modulus struct {
	p   uint32
	r   int
	all uint32 // p^r
}

// raise returns the modulus p^r, which is at most MaxMod.
func raise(p uint32, r int) modulus {
	m := modulus{p: p, r: r}
	m.all = m.power(r)
	return m
}

// power returns p^e for an e up to r.
func (m modulus) power(e int) uint32 {
	power := uint32(1)
	for range e {
		power *= m.p
	}
	return power
}

// bound returns the greatest number of the balanced lists for an exponent; the least one is its negative, as p is odd.
func (m modulus) bound(exponent int) int64 { return int64(m.power(exponent)-1) / 2 }

// plus returns s + x y modulo p^r; as they are residues, it is below 2^62 before the reduction.
func (m modulus) plus(s, x, y uint32) uint32 {
	return uint32((uint64(s) + uint64(x)*uint64(y)) % uint64(m.all))
}

// residues returns the residues modulo p^r of a list.
func (m modulus) residues(list []int64) []uint32 {
	result := make([]uint32, len(list))
	for i, v := range list {
		result[i], _ = modular.Of(v, m.all)
	}
	return result
}

// balanced returns the balanced value modulo p^e of a residue modulo p^r, of which p^e is a divisor.
func (m modulus) balanced(x uint32, exponent int) int64 {
	power := m.power(exponent)
	v, _ := modular.Balanced(x%power, power)
	return v
}
