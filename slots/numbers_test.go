package slots

import (
	"math"
	"math/big"
	"math/rand"
	"slices"
	"testing"

	"obscura/api"
)

const top = api.MaxMod

var dimensions = []int{4, 8, 16, 32}

// noDimensions are numbers that are none; 2 is one of layer 7, and the last ones are dimensions modulo 2^32.
var noDimensions = []int{math.MinInt, -32, -4, -1, 0, 1, 2, 3, 5, 6, 7, 9, 12, 24, 31, 33, 64, 128, math.MaxInt, 1<<32 + 4, 1<<32 + 32, -1<<32 + 8}

// noExponents are none for any power.
var noExponents = []int{math.MinInt, -1 << 32, -2, -1, 0, 8, 9, 31, 32, 64, 1 << 32, 1<<32 + 1, math.MinInt + 1, math.MaxInt}

// setting is what slots are made of, and the places in their order.
type setting struct {
	n      int
	p      uint32
	r      int
	places []*big.Int
}

// modulus returns p^e.
func (c setting) modulus(e int) int64 { return power(c.p, e).Int64() }

// bound returns the greatest number of a balanced list for e.
func (c setting) bound(e int) int64 { return (c.modulus(e) - 1) / 2 }

// drawn returns a balanced list for e, many of whose elements are 0, 1, or at a bound.
func (c setting) drawn(r *rand.Rand, e int) []int64 {
	h := c.bound(e)
	list := make([]int64, c.n)
	for i := range list {
		other := r.Int63n(2*h+1) - h
		list[i] = []int64{0, 1, -1, h, -h, other, other, other, other}[r.Intn(9)]
	}
	return list
}

// lists are balanced lists for e: the zeros, equal elements, the units, the bounds, and some others.
func (c setting) lists(r *rand.Rand, e int) [][]int64 {
	h := c.bound(e)
	list := [][]int64{make([]int64, c.n), slices.Repeat([]int64{1}, c.n), slices.Repeat([]int64{h}, c.n), slices.Repeat([]int64{-h}, c.n)}
	for k := range c.n {
		list = append(list, unit(c.n, k, 1), unit(c.n, k, -h))
	}
	for range 3 {
		list = append(list, c.drawn(r, e))
	}
	return list
}

// fitting returns the plain primes that are 1 modulo 2 n.
func fitting(n int) []uint32 {
	var list []uint32
	for p := 2*n + 1; p < 65536; p += 2 * n {
		if prime(uint32(p)) {
			list = append(list, uint32(p))
		}
	}
	return list
}

// settings are for all dimensions the least fitting primes, the greatest one, and some between, with all powers.
func settings(t *testing.T) []setting {
	t.Helper()
	var list []setting
	for _, n := range dimensions {
		all := fitting(n)
		for i, p := range all {
			if i < 2 || i == len(all)/30 || i == len(all)/2 || i == len(all)-1 || p == 46337 {
				for r := 1; power(p, r).Cmp(big.NewInt(top)) <= 0; r++ {
					list = append(list, setting{n, p, r, places(t, n, p, r)})
				}
			}
		}
	}
	return list
}

// forAll calls a test for the slots of all settings.
func forAll(t *testing.T, f func(s *Slots, c setting, r *rand.Rand)) {
	t.Helper()
	r := rand.New(rand.NewSource(83))
	for _, c := range settings(t) {
		f(made(t, c.n, c.p, c.r), c, r)
	}
}

// forEach calls a test for the slots of all settings and all exponents.
func forEach(t *testing.T, f func(s *Slots, c setting, e int, r *rand.Rand)) {
	t.Helper()
	forAll(t, func(s *Slots, c setting, r *rand.Rand) {
		for e := 1; e <= c.r; e++ {
			f(s, c, e, r)
		}
	})
}

// made returns the slots of a setting.
func made(t *testing.T, n int, p uint32, r int) *Slots {
	t.Helper()
	s, e := New(n, p, r)
	if s == nil || e != api.OK {
		t.Fatalf("New(%d, %d, %d): error %d", n, p, r, e)
	}
	return s
}

func prime(p uint32) bool { return number(p).ProbablyPrime(0) }

func number(v uint32) *big.Int { return big.NewInt(int64(v)) }

// power returns p^e.
func power(p uint32, e int) *big.Int {
	return new(big.Int).Exp(number(p), big.NewInt(int64(e)), nil)
}

// places returns the places of the slots modulo p^r.
func places(t *testing.T, n int, p uint32, r int) []*big.Int {
	t.Helper()
	least := number(leastRoot(t, n, p))
	m := power(p, r)
	// The power with the exponent p^(r-1) is congruent to it modulo p, and is a root modulo p^r.
	zeta := new(big.Int).Exp(least, power(p, r-1), m)
	if v := new(big.Int).Exp(zeta, big.NewInt(int64(n)), m); v.Cmp(new(big.Int).Sub(m, big.NewInt(1))) != 0 {
		t.Fatalf("%v is no root of x^%d + 1 modulo %v", zeta, n, m)
	}
	list := make([]*big.Int, n)
	for j := range n / 2 {
		list[j] = new(big.Int).Exp(zeta, power(3, j), m)
		list[n/2+j] = new(big.Int).ModInverse(list[j], m)
	}
	return list
}

// leastRoot returns the least root of x^n + 1 modulo p by trying the numbers.
func leastRoot(t *testing.T, n int, p uint32) uint32 {
	t.Helper()
	for x := uint64(1); x < uint64(p); x++ {
		y := x
		for k := 1; k < n; k *= 2 {
			y = y * y % uint64(p)
		}
		if y == uint64(p)-1 {
			return uint32(x)
		}
	}
	t.Fatalf("x^%d + 1 has no root modulo %d", n, p)
	return 0
}

// balanced returns the number from -(m - 1)/2 to (m - 1)/2 that is congruent to v modulo the odd number m.
func balanced(v *big.Int, m int64) int64 {
	x := new(big.Int).Mod(v, big.NewInt(m)).Int64()
	if x > (m-1)/2 {
		x -= m
	}
	return x
}

// lowered returns the balanced list that is congruent to a list modulo m.
func lowered(list []int64, m int64) []int64 {
	result := make([]int64, len(list))
	for i, v := range list {
		result[i] = balanced(big.NewInt(v), m)
	}
	return result
}

// exactDecode returns the values modulo m of a polynomial at the places.
func exactDecode(a []int64, places []*big.Int, m int64) []int64 {
	list := make([]int64, len(places))
	for s, z := range places {
		sum := new(big.Int)
		for i := len(a) - 1; i >= 0; i-- {
			sum.Mul(sum, z).Add(sum, big.NewInt(a[i]))
		}
		list[s] = balanced(sum, m)
	}
	return list
}

// exactEncode returns the sums over the slots of v(s) z^(-i), divided by n, modulo m.
func exactEncode(v []int64, places []*big.Int, m int64) []int64 {
	n := int64(len(places))
	share := new(big.Int).ModInverse(big.NewInt(n), big.NewInt(m))
	list := make([]int64, n)
	for i := range n {
		sum := new(big.Int)
		for s, z := range places {
			inverse := new(big.Int).Exp(z, big.NewInt(-i), big.NewInt(m))
			sum.Add(sum, inverse.Mul(inverse, big.NewInt(v[s])))
		}
		list[i] = balanced(sum.Mul(sum, share), m)
	}
	return list
}

// exactProduct returns the product modulo x^n + 1 and modulo m.
func exactProduct(a, b []int64, m int64) []int64 {
	n := len(a)
	sums := make([]big.Int, n)
	for i, x := range a {
		for j, y := range b {
			term := new(big.Int).Mul(big.NewInt(x), big.NewInt(y))
			if i+j >= n {
				term.Neg(term)
			}
			sums[(i+j)%n].Add(&sums[(i+j)%n], term)
		}
	}
	list := make([]int64, n)
	for k := range sums {
		list[k] = balanced(&sums[k], m)
	}
	return list
}

// substituted returns a(x^k) modulo x^n + 1, for an odd k.
func substituted(a []int64, k int) []int64 {
	n := len(a)
	list := make([]int64, n)
	for i, x := range a {
		if i*k/n%2 == 1 {
			x = -x
		}
		list[i*k%n] = x
	}
	return list
}

// pairwise returns the list of f(a(i), b(i)), balanced modulo m.
func pairwise(a, b []int64, m int64, f func(sum, x, y *big.Int) *big.Int) []int64 {
	list := make([]int64, len(a))
	for i := range a {
		list[i] = balanced(f(new(big.Int), big.NewInt(a[i]), big.NewInt(b[i])), m)
	}
	return list
}

// moved returns the list that has in slot j what a list has in slot moves(j).
func moved(list []int64, moves []int) []int64 {
	result := make([]int64, len(moves))
	for j, s := range moves {
		result[j] = list[s]
	}
	return result
}

// unit returns the list of n zeros, but for the element k.
func unit(n, k int, value int64) []int64 {
	list := make([]int64, n)
	list[k] = value
	return list
}

// checkList tests a result without an error.
func checkList[T int | int64](t *testing.T, got []T, e api.Errno, want []T, format string, values ...any) {
	t.Helper()
	if e != api.OK || !slices.Equal(got, want) {
		t.Fatalf(format+": %v, error %d; want %v", append(values, got, e, want)...)
	}
}

// checkNumber tests a number without an error.
func checkNumber(t *testing.T, got int, e api.Errno, want int, format string, values ...any) {
	t.Helper()
	if e != api.OK || got != want {
		t.Fatalf(format+": %d, error %d; want %d", append(values, got, e, want)...)
	}
}

// checkError tests an error and that nothing stands beside it.
func checkError[T int | int64](t *testing.T, got []T, e, want api.Errno, format string, values ...any) {
	t.Helper()
	if e != want || len(got) != 0 {
		t.Fatalf(format+": %v, error %d; want error %d", append(values, got, e, want)...)
	}
}

// must returns a result that has no error.
func must[T any](t *testing.T) func(a T, e api.Errno) T {
	return func(a T, e api.Errno) T {
		t.Helper()
		if e != api.OK {
			t.Fatalf("error %d", e)
		}
		return a
	}
}
