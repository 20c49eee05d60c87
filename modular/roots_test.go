package modular

import (
	"math"
	"math/rand"
	"testing"

	"obscura/api"
)

// plainOrder returns the least k from 1 on with a^k = 1.
func plainOrder(a, n uint32) uint32 {
	x, k := uint64(a), uint32(1)
	for ; x%uint64(n) != 1; k++ {
		x = x * uint64(a) % uint64(n)
	}
	return k
}

// plainOrders returns the order of each residue, and 0 for 0.
func plainOrders(n uint32) []uint32 {
	l := make([]uint32, n)
	for a := uint32(1); a < n; a++ {
		l[a] = plainOrder(a, n)
	}
	return l
}

// leastOf returns the least residue with an order, or ErrNone.
func leastOf(orders []uint32, order uint32) (uint32, api.Errno) {
	for a, k := range orders {
		if a > 0 && k == order {
			return uint32(a), api.OK
		}
	}
	return 0, api.ErrNone
}

func common(a, b uint32) uint32 {
	for b != 0 {
		a, b = b, a%b
	}
	return a
}

// P1.5 and P1.8: for small primes, Order is the least exponent and divides n - 1, and Root is the least residue of its order.
func TestOrdersAndRootsSmall(t *testing.T) {
	for n, prime := range sieve(260) {
		if !prime {
			continue
		}
		n := uint32(n)
		orders := plainOrders(n)
		for a := uint32(1); a < n; a++ {
			got, e := Order(a, n)
			checkResidue(t, "Order", got, e, orders[a])
			if got == 0 || (n-1)%got != 0 {
				t.Errorf("Order(%d, %d) is %d, which does not divide n - 1", a, n, got)
			}
		}
		for k := uint32(1); k <= n+2; k++ {
			want, wantE := leastOf(orders, k)
			if got, e := Root(k, n); got != want || e != wantE {
				t.Errorf("Root(%d, %d): %d, error %d; want %d, %d", k, n, got, e, want, wantE)
			}
		}
	}
}

// P1.5: the examples, and what is refused.
func TestOrderEdges(t *testing.T) {
	for _, c := range []struct {
		a, n, want uint32
		e          api.Errno
	}{
		{2, 7, 3, api.OK},
		{1, 2, 1, api.OK},
		{1, top, 1, api.OK},
		{2, top, 31, api.OK},
		{7, top, top - 1, api.OK},
		{top - 1, top, 2, api.OK},
		{3, 65537, 65536, api.OK},
		{0, 7, 0, api.ErrArg},
		{7, 7, 0, api.ErrArg},
		{8, 7, 0, api.ErrArg},
		{2, 2, 0, api.ErrArg},
		{1, 0, 0, api.ErrArg},
		{1, 1, 0, api.ErrArg},
		{1, 9, 0, api.ErrArg},
		{2, 9, 0, api.ErrArg},
		{3, 4, 0, api.ErrArg},
		{2, 2147483659, 0, api.ErrArg}, // a prime above MaxMod
		{2, 4294967291, 0, api.ErrArg},
		{2, math.MaxUint32, 0, api.ErrArg},
	} {
		if got, e := Order(c.a, c.n); got != c.want || e != c.e {
			t.Errorf("Order(%d, %d): %d, error %d; want %d, %d", c.a, c.n, got, e, c.want, c.e)
		}
	}
}

// P1.5: the examples, and what is refused; the first error that applies is returned.
func TestRootEdges(t *testing.T) {
	for _, c := range []struct {
		order, n, want uint32
		e              api.Errno
	}{
		{3, 7, 2, api.OK},
		{8, 17, 2, api.OK},
		{1, 2, 1, api.OK},
		{1, top, 1, api.OK},
		{2, top, top - 1, api.OK},
		{65536, 65537, 3, api.OK},
		{5, 17, 0, api.ErrNone},
		{2, 2, 0, api.ErrNone},
		{32, 17, 0, api.ErrNone},
		{65536, 17, 0, api.ErrNone},
		{65536, top, 0, api.ErrNone},
		{3, 8, 0, api.ErrArg},
		{0, 17, 0, api.ErrArg},
		{0, 8, 0, api.ErrArg},
		{1, 0, 0, api.ErrArg},
		{1, 1, 0, api.ErrArg},
		{2, 2147483659, 0, api.ErrArg}, // a prime above MaxMod
		{2, 4294967291, 0, api.ErrArg},
		{65537, 65537, 0, api.ErrLong},
		{65537, 8, 0, api.ErrArg},
		{65537, 4294967291, 0, api.ErrArg},
		{65537, 17, 0, api.ErrLong},
		{65538, top, 0, api.ErrLong},
		{top - 1, top, 0, api.ErrLong}, // divides n - 1, but is too long
		{math.MaxUint32, 17, 0, api.ErrLong},
	} {
		if got, e := Root(c.order, c.n); got != c.want || e != c.e {
			t.Errorf("Root(%d, %d): %d, error %d; want %d, %d", c.order, c.n, got, e, c.want, c.e)
		}
	}
}

// checkPowers tests that the powers of w are different and that those with an exponent prime to the order, and only they, have this order; w must be the least of them.
func checkPowers(t *testing.T, w, order, n uint32) {
	t.Helper()
	seen := map[uint64]bool{}
	x := uint64(1)
	for k := range order {
		if seen[x] {
			t.Errorf("modulo %d, the powers of %d repeat before %d", n, w, order)
			return
		}
		seen[x] = true
		got, e := Order(uint32(x), n)
		checkResidue(t, "Order of a power", got, e, order/common(k, order))
		if got == order && uint32(x) < w {
			t.Errorf("Root(%d, %d) is %d, but %d has this order too", order, n, w, x)
		}
		x = x * uint64(w) % uint64(n)
	}
	if x != 1 {
		t.Errorf("Root(%d, %d): the power of %d with this exponent is %d", order, n, w, x)
	}
}

// P1.5 and P1.8: for great primes, up to MaxMod and up to the order MaxOrder.
func TestRootsGreat(t *testing.T) {
	for _, c := range []struct {
		n      uint32
		orders []uint32
	}{
		{257, []uint32{1, 2, 4, 8, 16, 32, 64, 128, 256}},
		{65537, []uint32{1, 2, 1024, 65536}},
		{1073741827, []uint32{1, 2, 3, 6}},
		{2013265921, []uint32{1, 2, 3, 5, 15, 30, 64, 480, 4096, 65536, 61440}},
		{top, []uint32{1, 2, 3, 6, 7, 9, 11, 31, 331, 151, 42, 62, 18 * 331, 2 * 31 * 331, 7 * 11 * 151, 2 * 3 * 31 * 331}},
	} {
		for _, order := range c.orders {
			w, e := Root(order, c.n)
			if e != api.OK {
				t.Errorf("Root(%d, %d): error %d", order, c.n, e)
				continue
			}
			checkPowers(t, w, order, c.n)
		}
	}
}

// P1.8: the order divides n - 1, the power is 1, and no power with a divisor of it as exponent is.
func TestOrdersGreat(t *testing.T) {
	r := rand.New(rand.NewSource(10))
	for _, n := range []uint32{65537, 1073741827, 2013265921, 2147483629, top} {
		for _, a := range someResidues(n, r) {
			if a == 0 {
				continue
			}
			k, e := Order(a, n)
			if e != api.OK || k == 0 || (n-1)%k != 0 {
				t.Errorf("Order(%d, %d): %d, error %d", a, n, k, e)
				continue
			}
			if x, _ := Pow(a, uint64(k), n); x != 1 {
				t.Errorf("%d^%d modulo %d is %d", a, k, n, x)
			}
			factors, _ := Factors(k)
			for _, f := range factors {
				if x, _ := Pow(a, uint64(k/f.Prime), n); x == 1 {
					t.Errorf("the order of %d modulo %d divides %d", a, n, k/f.Prime)
				}
			}
		}
	}
}

// P1.8: every residue of an order is a power of the root with an exponent prime to it, and there are no others.
func TestRootsCoverTheirOrder(t *testing.T) {
	for n, prime := range sieve(200) {
		if !prime {
			continue
		}
		n := uint32(n)
		orders := plainOrders(n)
		for m := uint32(1); m < n; m++ {
			w, e := Root(m, n)
			if e != api.OK {
				continue
			}
			reached := map[uint32]bool{}
			for k := range m {
				if common(k, m) == 1 {
					x, _ := Pow(w, uint64(k), n)
					reached[x] = true
				}
			}
			for a := uint32(1); a < n; a++ {
				if reached[a] != (orders[a] == m) {
					t.Errorf("modulo %d, %d has the order %d; reached from Root(%d): %v", n, a, orders[a], m, reached[a])
				}
			}
		}
	}
}
