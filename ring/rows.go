package ring

import (
	"math/bits"

	"obscura/modular"
)

// modulus is a number up to MaxMod, modulo which rows are calculated: lists of residues, the coefficients of a polynomial modulo x^n + 1 for a row of n of them. The rows of one operation are equally long.
type modulus uint32

// has reports whether all numbers of a list are residues.
func (m modulus) has(list []uint32) bool {
	for _, c := range list {
		if c >= uint32(m) {
			return false
		}
	}
	return true
}

// residue returns the residue of an integer.
func (m modulus) residue(v int64) uint32 {
	c, _ := modular.Of(v, uint32(m))
	return c
}

// residues returns the row of a list of integers.
func (m modulus) residues(l []int64) []uint32 {
	row := make([]uint32, len(l))
	for i, v := range l {
		row[i] = m.residue(v)
	}
	return row
}

// sum returns a + k b.
func (m modulus) sum(a []uint32, k int64, b []uint32) []uint32 {
	factor := uint64(m.residue(k))
	row := make([]uint32, len(a))
	for i, c := range a {
		// For residues, this is below 2^62 before the reduction.
		row[i] = uint32((uint64(c) + factor*uint64(b[i])) % uint64(m))
	}
	return row
}

// multiple returns k a.
func (m modulus) multiple(k int64, a []uint32) []uint32 {
	return m.sum(make([]uint32, len(a)), k, a)
}

// product returns a b.
func (m modulus) product(a, b []uint32) []uint32 {
	n := len(a)
	// The element n + j is b(j), and as x^n is -1, the element j, which is n places before it, is -b(j).
	signed := append(m.multiple(-1, b), b...)
	row := make([]uint32, n)
	for k := range row {
		// Up to MaxN products of 62 bits need more than 64 bits together.
		high, low := uint64(0), uint64(0)
		for i, c := range a {
			carry := uint64(0)
			low, carry = bits.Add64(low, uint64(c)*uint64(signed[n+k-i]), 0)
			high += carry
		}
		row[k] = uint32(bits.Rem64(high, low, uint64(m)))
	}
	return row
}

// replaced returns the row of a in which x is replaced by x^k, for an odd k.
func (m modulus) replaced(a []uint32, k int) []uint32 {
	n := len(a)
	negative := m.multiple(-1, a)
	row := make([]uint32, n)
	for i := range a {
		if j := i * k % (2 * n); j < n {
			row[j] = a[i]
		} else {
			// x^n is -1.
			row[j-n] = negative[i]
		}
	}
	return row
}
