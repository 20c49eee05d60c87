package primes

import (
	"obscura/api"
	"obscura/modular"
)

// Generator returns the least number whose order modulo the prime p is p - 1.
func Generator(p uint32) (uint32, api.Errno) {
	if p > api.MaxMod || !modular.Prime(p) {
		return 0, api.ErrArg
	}
	factors, e := modular.Factors(p - 1)
	if e != api.OK {
		return 0, e
	}
	g := uint32(1)
search:
	for ; g < p; g++ {
		// The order of g is a proper divisor of p - 1 just if it divides one of these quotients.
		for _, f := range factors {
			x, e := modular.Pow(g, uint64((p-1)/f.Prime), p)
			if e != api.OK {
				return 0, e
			}
			if x == 1 {
				continue search
			}
		}
		break search
	}
	return g, api.OK
}
