package modular

import (
	"math"
	"testing"

	"obscura/api"
)

// results calls every function of three numbers or fewer, in a fixed order.
func results(a, b, n uint32) (values []int64, errnos []api.Errno) {
	note := func(v int64, e api.Errno) {
		values, errnos = append(values, v), append(errnos, e)
	}
	for _, f := range []func(a, b, n uint32) (uint32, api.Errno){Add, Sub, Mul} {
		x, e := f(a, b, n)
		note(int64(x), e)
	}
	for _, f := range []func(a, n uint32) (uint32, api.Errno){Inverse, Order, Root} {
		x, e := f(a, n)
		note(int64(x), e)
	}
	x, e := Pow(a, uint64(b)<<32|uint64(a), n)
	note(int64(x), e)
	x, e = Of(-int64(b)<<31, n)
	note(int64(x), e)
	v, e := Balanced(a, n)
	note(v, e)
	l, e := Factors(n)
	note(int64(len(l)), e)
	if Prime(n) {
		note(1, api.OK)
	}
	return values, errnos
}

// R1, R2 and R6: for extreme arguments the functions return, with zeros beside an error, and the same again when they are called again.
func TestRules(t *testing.T) {
	extremes := []uint32{0, 1, 2, 3, 4, 65535, 65536, 65537, 1 << 30, top - 1, top, top + 1, 2147483659, math.MaxUint32 - 4, math.MaxUint32}
	for _, n := range extremes {
		for _, a := range extremes {
			for _, b := range extremes {
				values, errnos := results(a, b, n)
				again, errnosAgain := results(a, b, n)
				for i := range values {
					if errnos[i] != api.OK && values[i] != 0 {
						t.Errorf("(%d, %d, %d): result %d is %d beside error %d", a, b, n, i, values[i], errnos[i])
					}
					if values[i] != again[i] || errnos[i] != errnosAgain[i] {
						t.Errorf("(%d, %d, %d): result %d is not the same again", a, b, n, i)
					}
				}
			}
		}
	}
}
