package ring

import (
	"iter"
	"slices"

	"obscura/api"
)

// moduli yields the moduli of the elements of a level, which is one of the parameters.
func moduli(p api.Params, level int, special bool) iter.Seq[uint32] {
	return func(yield func(uint32) bool) {
		for _, m := range p.Chain[:level] {
			if !yield(m) {
				return
			}
		}
		if special {
			yield(p.Special)
		}
	}
}

// element returns the element of a level, of which a function gives the row for each modulus.
func element(p api.Params, level int, special bool, row func(i int, m modulus) []uint32) api.Elem {
	var rows [][]uint32
	for m := range moduli(p, level, special) {
		rows = append(rows, row(len(rows), modulus(m)))
	}
	return api.Elem{Level: level, Special: special, Rows: rows}
}

// valid reports whether the parameters are those of a ring.
func valid(p api.Params) bool {
	if !dimension(p.N) || len(p.Chain) < 1 || len(p.Chain) > api.MaxPrimes {
		return false
	}
	all := slices.Collect(moduli(p, len(p.Chain), p.Special != 0))
	for i, m := range all {
		if m < 3 || m > api.MaxMod || m%2 == 0 || slices.Contains(all[:i], m) {
			return false
		}
	}
	return true
}

// exists reports whether valid parameters have elements of a level, with or without the special modulus.
func exists(p api.Params, level int, special bool) bool {
	return level >= 1 && level <= len(p.Chain) && (!special || p.Special != 0)
}

// holds reports whether an element is one of valid parameters.
func holds(p api.Params, a api.Elem) bool {
	if !exists(p, a.Level, a.Special) {
		return false
	}
	left := a.Rows
	for m := range moduli(p, a.Level, a.Special) {
		if len(left) == 0 || len(left[0]) != p.N || !modulus(m).has(left[0]) {
			return false
		}
		left = left[1:]
	}
	return len(left) == 0
}

// dimension reports whether n is one.
func dimension(n int) bool { return n == 4 || n == 8 || n == 16 || n == 32 }
