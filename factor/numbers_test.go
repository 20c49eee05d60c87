package factor

import (
	"math"
	"math/big"
	"slices"
	"testing"

	"obscura/api"
)

const top = api.MaxMod

var dimensions = []int{2, 4, 8, 16, 32}

// noDimensions are numbers that are none; the last ones are dimensions modulo 2^32.
var noDimensions = []int{math.MinInt, -32, -8, -1, 0, 1, 3, 5, 6, 7, 9, 12, 15, 17, 24, 31, 33, 48, 63, 64, 128, 256, math.MaxInt, 1<<32 + 4, 1<<32 + 32, -1<<32 + 8}

// noPrimes are numbers that are no plain primes: 2, composite ones, and those of 2^16 on, some of which are primes.
var noPrimes = []uint32{0, 1, 2, 4, 6, 9, 15, 25, 49, 255, 561, 1105, 6601, 65025, 65531, 65533, 65535, 65536, 65537, 65539, 65543, 65536 + 17, 1 << 17, top - 18, top, top + 1, 2147483659, math.MaxUint32 - 4, math.MaxUint32}

// plainPrimes returns all plain primes, by a sieve.
func plainPrimes() []uint32 {
	var list []uint32
	struck := make([]bool, 65536)
	for p := 3; p < len(struck); p += 2 {
		if struck[p] {
			continue
		}
		list = append(list, uint32(p))
		for k := 3 * p; k < len(struck); k += 2 * p {
			struck[k] = true
		}
	}
	return list
}

// somePrimes returns the plain primes up to a limit, every one in step behind it, and the greatest ones.
func somePrimes(limit uint32, step int) []uint32 {
	all := plainPrimes()
	var list []uint32
	for i, p := range all {
		if p <= limit || i%step == 0 || i >= len(all)-5 {
			list = append(list, p)
		}
	}
	return list
}

// moduli returns all plain moduli of a prime, ascending: the first one is the prime.
func moduli(p uint32) []uint32 {
	var list []uint32
	for m := uint64(p); m <= top; m *= uint64(p) {
		list = append(list, uint32(m))
	}
	return list
}

func number(v uint32) *big.Int { return big.NewInt(int64(v)) }

// residue returns the residue of an integer.
func residue(v *big.Int, m uint32) uint32 {
	return uint32(new(big.Int).Mod(v, number(m)).Uint64())
}

// power returns x^k modulo m.
func power(x uint32, k int, m uint32) uint32 {
	return uint32(new(big.Int).Exp(number(x), big.NewInt(int64(k)), number(m)).Uint64())
}

// exactValue returns the value of a polynomial at x modulo m, as the sum of its terms.
func exactValue(a []int64, x, m uint32) uint32 {
	sum := new(big.Int)
	for i, c := range a {
		sum.Add(sum, new(big.Int).Mul(big.NewInt(c), number(power(x, i, m))))
	}
	return residue(sum, m)
}

// exactSlope returns the value of the derivative at x modulo m, as the sum of its terms.
func exactSlope(a []int64, x, m uint32) uint32 {
	sum := new(big.Int)
	for i, c := range a {
		if i > 0 {
			term := new(big.Int).Mul(big.NewInt(c), big.NewInt(int64(i)))
			sum.Add(sum, term.Mul(term, number(power(x, i-1, m))))
		}
	}
	return residue(sum, m)
}

// exactProduct returns the product of polynomials modulo p.
func exactProduct(p uint32, factors [][]uint32) []uint32 {
	product := []uint32{1}
	for _, f := range factors {
		longer := make([]uint32, len(product)+len(f)-1)
		for i, x := range product {
			for j, y := range f {
				longer[i+j] = uint32((uint64(longer[i+j]) + uint64(x)*uint64(y)) % uint64(p))
			}
		}
		product = longer
	}
	return product
}

// sum returns x^n + 1.
func sum(n int) []uint32 {
	return slices.Concat([]uint32{1}, make([]uint32, n-1), []uint32{1})
}

// divides reports whether a monic polynomial divides x^n + 1 modulo p.
func divides(f []uint32, n int, p uint32) bool {
	rest := sum(n)
	last := len(f) - 1
	for k := n - last; k >= 0; k-- {
		q := uint64(p - rest[k+last])
		for i, c := range f {
			rest[k+i] = uint32((uint64(rest[k+i]) + q*uint64(c)) % uint64(p))
		}
	}
	return !slices.ContainsFunc(rest, func(c uint32) bool { return c != 0 })
}

// monic returns the monic polynomials of a degree from 1 on modulo p that divide x^n + 1, ascending.
func monic(n int, p uint32, degree int) [][]uint32 {
	var list [][]uint32
	a := make([]uint32, degree+1)
	a[degree] = 1
	for {
		if divides(a, n, p) {
			list = append(list, slices.Clone(a))
		}
		// The constant term is compared first, so it counts the slowest.
		i := degree - 1
		for ; i >= 0 && a[i] == p-1; i-- {
			a[i] = 0
		}
		if i < 0 {
			return list
		}
		a[i]++
	}
}

// order returns the least k from 1 on with p^k = 1 modulo 2 n.
func order(n int, p uint32) int {
	k := 1
	for power(p, k, uint32(2*n)) != 1 {
		k++
	}
	return k
}

// leastRoot returns the least root of x^n + 1 modulo p by trying the numbers, and whether there is one.
func leastRoot(n int, p uint32) (uint32, bool) {
	for x := uint64(1); x < uint64(p); x++ {
		y := x
		for k := 1; k < n; k *= 2 {
			y = y * y % uint64(p)
		}
		if y == uint64(p)-1 {
			return uint32(x), true
		}
	}
	return 0, false
}

// checkNumber tests a result without an error.
func checkNumber(t *testing.T, got uint32, e api.Errno, want uint32, format string, values ...any) {
	t.Helper()
	if got != want || e != api.OK {
		t.Fatalf(format+": %d, error %d; want %d", append(values, got, e, want)...)
	}
}

// checkError tests an error and that the number beside it is 0.
func checkError(t *testing.T, got uint32, e, want api.Errno, format string, values ...any) {
	t.Helper()
	if got != 0 || e != want {
		t.Fatalf(format+": %d, error %d; want error %d", append(values, got, e, want)...)
	}
}
