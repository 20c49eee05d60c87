package supply

import (
	"math/bits"

	"obscura/api"
)

// taker takes the next k bits, at most 64, as a number, the first one highest. If so many are not left, it returns ErrNone.
type taker func(k int) (uint64, api.Errno)

// below takes a number below n, which is at least 1.
func (t taker) below(n uint64) (uint64, api.Errno) {
	k := bits.Len64(n - 1)
	for {
		number, e := t(k)
		if e != api.OK || number < n {
			return number, e
		}
	}
}

// numbers takes a list of n numbers below a limit, each of which is converted.
func numbers[T any](t taker, n int, limit uint64, convert func(v uint64) T) ([]T, api.Errno) {
	list := make([]T, n)
	for i := range list {
		v, e := t.below(limit)
		if e != api.OK {
			return nil, e
		}
		list[i] = convert(v)
	}
	return list, api.OK
}

// signs takes a list of n numbers, of which h are 1 or -1: their places are the first h elements of a list of all places, which is shuffled as far as that.
func signs(t taker, n, h int) ([]int8, api.Errno) {
	places := make([]int, n)
	for i := range places {
		places[i] = i
	}
	list := make([]int8, n)
	for i := range h {
		j, e := t.below(uint64(n - i))
		if e != api.OK {
			return nil, e
		}
		other := i + int(j)
		places[i], places[other] = places[other], places[i]
		bit, e := t(1)
		if e != api.OK {
			return nil, e
		}
		list[places[i]] = 1 - 2*int8(bit)
	}
	return list, api.OK
}
