package primes

import (
	"math"
	"testing"

	"obscura/api"
	"obscura/modular"
)

// reaches returns how many residues are powers of g modulo p.
func reaches(g, p uint32) uint32 {
	count, x := uint32(1), uint64(g)
	for ; x != 1; x = x * uint64(g) % uint64(p) {
		count++
	}
	return count
}

func checkGenerator(t *testing.T, p, want uint32, e api.Errno) {
	t.Helper()
	if g, ge := Generator(p); g != want || ge != e {
		t.Errorf("Generator(%d): %d, error %d; want %d, %d", p, g, ge, want, e)
	}
}

// P3.3 and P3.6: all small numbers; each residue is a power of the generator, and no smaller number has this property.
func TestGeneratorsSmall(t *testing.T) {
	for p := range uint32(3000) {
		if !isPrime(uint64(p)) {
			checkGenerator(t, p, 0, api.ErrArg)
			continue
		}
		g := uint32(1)
		for reaches(g, p) != p-1 {
			g++
		}
		checkGenerator(t, p, g, api.OK)
	}
}

// P3.3: the examples of the chapter, primes with great generators, and numbers that are no prime up to MaxMod.
func TestGeneratorEdges(t *testing.T) {
	for p, want := range map[uint32]uint32{2: 1, 3: 2, 7: 3, 17: 3, 191: 19, 409: 21, 5881: 31, 65537: 3, 110881: 69, 1685283601: 164, top: 7} {
		checkGenerator(t, p, want, api.OK)
	}
	for _, p := range []uint32{0, 1, 4, 9, 25, 561, 46337 * 46337, top - 1, top + 1, 2147483659, 4294967291, math.MaxUint32} {
		checkGenerator(t, p, 0, api.ErrArg)
	}
}

// P3.6: for great primes, the order of the generator is p - 1, and that of no smaller number.
func TestGeneratorsGreat(t *testing.T) {
	list := []uint32{65537, 1073741827, 2013265921, 2147483629, 1685283601, top}
	for _, n := range []int{4, 32} {
		chain, _ := Chain(n, 17, 8)
		list = append(list, chain...)
	}
	for _, p := range list {
		g, e := Generator(p)
		if e != api.OK {
			t.Errorf("Generator(%d): error %d", p, e)
			continue
		}
		for a := uint32(1); a <= g; a++ {
			k, e := modular.Order(a, p)
			if e != api.OK || (k == p-1) != (a == g) {
				t.Errorf("Generator(%d) is %d, but the order of %d is %d, error %d", p, g, a, k, e)
			}
		}
	}
	if k := reaches(3, 65537); k != 65536 {
		t.Errorf("%d residues modulo 65537 are powers of 3", k)
	}
}
