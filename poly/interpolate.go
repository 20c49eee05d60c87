package poly

import (
	"iter"

	"obscura/api"
)

// through returns the polynomial with the values ys at xs, or ErrRange if there is a difference that is no unit.
//
// It is a sum, whose term k is a number times the product of all x - xs[j] with j < k (Newton). All terms behind the term j are 0 at xs[j]. So what the terms before j leave of a value, divided by the differences to the places before j, is the number of the term j at the place j; at a later place the term j takes its number away, and a further difference divides the rest.
func (m modulus) through(xs, ys []uint32) ([]uint32, api.Errno) {
	numbers := append([]uint32(nil), ys...)
	for i, j := range pairs(len(xs)) {
		inverse, e := m.inverse(m.less(xs[i], xs[j]))
		if e != api.OK {
			return nil, e
		}
		numbers[i] = m.plus(0, m.less(numbers[i], numbers[j]), inverse)
	}
	var result []uint32
	for k := len(xs) - 1; k >= 0; k-- {
		result = m.product(result, []uint32{m.less(0, xs[k]), 1})
		result = m.sum(result, numbers[k], []uint32{1})
	}
	return result, api.OK
}

// pairs produces all i and j with j < i < n, both ascending, so that what belongs to a place is done before a later place needs it.
func pairs(n int) iter.Seq2[int, int] {
	return func(yield func(i, j int) bool) {
		for i := range n {
			for j := range i {
				if !yield(i, j) {
					return
				}
			}
		}
	}
}
