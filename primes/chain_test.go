package primes

import (
	"math"
	"slices"
	"testing"

	"obscura/api"
)

// longChain is, by its definition, the chain of all primes above 2^30, but at most of 26.
func longChain(n int, t uint32) []uint32 {
	step := 2 * uint64(n) * uint64(t)
	var l []uint32
	for c := int64(top - (top-1)%step); c > 1<<30 && len(l) <= api.MaxModuli; c -= int64(step) {
		if isPrime(uint64(c)) {
			l = append(l, uint32(c))
		}
	}
	return l
}

// checkChains tests the chains of every length and returns how many primes above 2^30 there are.
func checkChains(t *testing.T, n int, modulus uint32) int {
	t.Helper()
	long := longChain(n, modulus)
	for count := 1; count <= api.MaxModuli; count++ {
		got, e := Chain(n, modulus, count)
		if count > len(long) {
			if len(got) != 0 || e != api.ErrNone {
				t.Errorf("Chain(%d, %d, %d): %v, error %d; want ErrNone", n, modulus, count, got, e)
			}
		} else if !slices.Equal(got, long[:count]) || e != api.OK {
			t.Errorf("Chain(%d, %d, %d): %v, error %d; want %v", n, modulus, count, got, e, long[:count])
		}
	}
	return len(long)
}

// P3.2: small and great moduli, each length.
func TestChains(t *testing.T) {
	for _, n := range []int{4, 8, 16, 32} {
		for _, modulus := range []uint32{3, 5, 9, 15, 17, 41, 97, 193, 257, 4913, 65537, 65535, 99999, 1048573} {
			checkChains(t, n, modulus)
		}
	}
}

// P3.2: there may be fewer primes above 2^30 than are asked for, also none.
func TestShortChains(t *testing.T) {
	found := map[int]int{}
	for modulus := uint32(2000001); modulus < 2000401; modulus += 2 {
		found[checkChains(t, 4, modulus)]++
		found[checkChains(t, 32, modulus)]++
	}
	for _, size := range []int{0, 1, 2, 3, 5, 10} {
		if found[size] == 0 {
			t.Errorf("the test meets no chain of %d primes", size)
		}
	}
}

// P3.2: a prime counts just if it is above 2^30. Here p - 1 is the step itself, so that only p and 2 p - 1 may be primes of the chain.
func TestChainsAround30Bits(t *testing.T) {
	above, under := 0, 0
	for p := uint32(1<<30 + 9); above < 5; p += 16 {
		if !isPrime(uint64(p)) {
			continue
		}
		above++
		if got, e := Chain(4, (p-1)/8, 1); len(got) != 1 || got[0] != p || e != api.OK {
			t.Errorf("Chain(4, %d, 1): %v, error %d; want %d", (p-1)/8, got, e, p)
		}
	}
	for p := uint32(1<<30 - 7); under < 5; p -= 16 {
		if !isPrime(uint64(p)) || isPrime(2*uint64(p)-1) {
			continue
		}
		under++
		if got, e := Chain(4, (p-1)/8, 1); len(got) != 0 || e != api.ErrNone {
			t.Errorf("Chain(4, %d, 1): %v, error %d; want ErrNone", (p-1)/8, got, e)
		}
	}
}

// P3.2: invalid arguments, and steps of more than 31 bits.
func TestChainsRefuse(t *testing.T) {
	for _, c := range []struct {
		n     int
		t     uint32
		count int
		e     api.Errno
	}{
		{4, 16, 1, api.ErrArg},
		{8, 17, 26, api.ErrArg},
		{32, 2147483647, 1, api.ErrNone},
		{4, 2147483647, 25, api.ErrNone},
		{4, 1<<29 + 1, 1, api.ErrNone},   // the step is 2^32 + 8
		{32, 1<<26 + 1, 1, api.ErrNone},  // 2^32 + 64
		{32, 1<<26 + 17, 1, api.ErrNone}, // 2^32 + 64 17
		{32, 1<<25 + 1, 1, api.ErrNone},  // 2^31 + 64
		{32, 2147483647, 26, api.ErrArg},
		{8, 17, 0, api.ErrArg},
		{8, 17, -1, api.ErrArg},
		{8, 17, math.MinInt, api.ErrArg},
		{8, 17, math.MaxInt, api.ErrArg},
		{8, 0, 1, api.ErrArg},
		{8, 1, 1, api.ErrArg},
		{8, 2, 1, api.ErrArg},
		{8, 4, 1, api.ErrArg},
		{8, top - 1, 1, api.ErrArg},
		{8, top + 1, 1, api.ErrArg},
		{8, top + 2, 1, api.ErrArg},
		{8, math.MaxUint32, 1, api.ErrArg},
		{0, 17, 1, api.ErrArg},
		{1, 17, 1, api.ErrArg},
		{2, 17, 1, api.ErrArg},
		{3, 17, 1, api.ErrArg},
		{5, 17, 1, api.ErrArg},
		{12, 17, 1, api.ErrArg},
		{24, 17, 1, api.ErrArg},
		{64, 17, 1, api.ErrArg},
		{-4, 17, 1, api.ErrArg},
		{math.MinInt, 17, 1, api.ErrArg},
		{math.MaxInt, 17, 1, api.ErrArg},
	} {
		if got, e := Chain(c.n, c.t, c.count); len(got) != 0 || e != c.e {
			t.Errorf("Chain(%d, %d, %d): %v, error %d; want %d", c.n, c.t, c.count, got, e, c.e)
		}
	}
}

// P3.5: the residues, the divisors of t, the gaps, and shorter chains as beginnings.
func TestChainProperties(t *testing.T) {
	for _, n := range []int{4, 8, 16, 32} {
		for _, modulus := range []uint32{3, 17, 4913, 12289, 15015} {
			chain, e := Chain(n, modulus, api.MaxModuli)
			if e != api.OK || len(chain) != api.MaxModuli {
				t.Errorf("Chain(%d, %d, 25): %v, error %d", n, modulus, chain, e)
				continue
			}
			step := 2 * uint64(n) * uint64(modulus)
			last := uint64(top) + 1
			for i, p := range chain {
				if p%uint32(2*n) != 1 || p%modulus != 1 || modulus%p == 0 || !isPrime(uint64(p)) {
					t.Errorf("Chain(%d, %d, 25) contains %d", n, modulus, p)
				}
				for c := uint64(p) + step; c < last; c += step {
					if isPrime(c) {
						t.Errorf("Chain(%d, %d, 25) leaves out %d", n, modulus, c)
					}
				}
				last = uint64(p)
				if start, e := Chain(n, modulus, i+1); !slices.Equal(start, chain[:i+1]) || e != api.OK {
					t.Errorf("Chain(%d, %d, %d): %v, error %d", n, modulus, i+1, start, e)
				}
			}
		}
	}
}
