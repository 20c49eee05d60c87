package residue

import (
	"math"
	"math/big"
	"slices"
	"testing"

	"obscura/api"
)

// factors are possible numbers t of Scale.
func factors(last uint32) []uint32 {
	return []uint32{1, 2, 3, 4, 5, 7, 16, 17, 25, 289, 4913, 65536, 65537, 1 << 30, top - 18, top - 1, top, last - 1, min(last, top-1) + 1, last / 2, last/2 + 1}
}

// offset returns the integer of least absolute value that is v modulo q and 0 modulo n, for a prime q that does not divide n.
func offset(v *big.Int, q, n uint32) *big.Int {
	prime, factor := big.NewInt(int64(q)), big.NewInt(int64(n))
	inverse := new(big.Int).ModInverse(factor, prime)
	return new(big.Int).Mul(factor, balancedBy(new(big.Int).Mul(v, inverse), prime))
}

// divided returns (v - d) / q, and fails if there is a rest.
func divided(t *testing.T, v, d *big.Int, q uint32) *big.Int {
	t.Helper()
	y, rest := new(big.Int).QuoRem(new(big.Int).Sub(v, d), big.NewInt(int64(q)), new(big.Int))
	if rest.Sign() != 0 {
		t.Fatalf("(%d - %d) / %d has a rest", v, d, q)
	}
	return y
}

// P4.4: the quotient by the last prime and what was taken away, for all integers of a system.
func TestDrop(t *testing.T) {
	forAll(t, allSystems(t), func(s *System, moduli []uint32, v *big.Int) {
		r, last := rowOf(v, moduli), len(moduli)-1
		row, d, e := s.Drop(r)
		if last == 0 {
			checkError(t, row, e, api.ErrDown, "Drop(%v) by %v", r, moduli)
			if d != 0 {
				t.Errorf("Drop(%v) by %v: %d beside an error", r, moduli, d)
			}
			return
		}
		want := balancedBy(v, big.NewInt(int64(moduli[last])))
		checkRow(t, row, e, rowOf(divided(t, v, want, moduli[last]), moduli[:last]), "Drop(%v) by %v", r, moduli)
		if d != want.Int64() {
			t.Fatalf("Drop(%v) by %v: d is %d; want %d", r, moduli, d, want)
		}
	})
}

// P4.4 and P4.5: the examples.
func TestDivisionsOfTheChapter(t *testing.T) {
	s, r := system(t, 3, 5, 7), []uint32{1, 2, 3}
	row, d, e := s.Drop(r)
	checkRow(t, row, e, []uint32{1, 2}, "Drop(%v)", r)
	if d != 3 {
		t.Errorf("Drop(%v): d is %d", r, d)
	}
	row, e = s.Scale(r, 2)
	checkRow(t, row, e, []uint32{2, 3}, "Scale(%v, 2)", r)
	row, e = s.Scale(r, 7)
	checkError(t, row, e, api.ErrArg, "Scale(%v, 7)", r)
	row, d, e = system(t, 3).Drop([]uint32{1})
	checkError(t, row, e, api.ErrDown, "Drop(1) by 3")
	if d != 0 {
		t.Errorf("Drop(1) by 3: d is %d", d)
	}
}

// P4.5: the quotient by the last prime behind what was taken away, which t divides.
func TestScale(t *testing.T) {
	forAll(t, allSystems(t), func(s *System, moduli []uint32, v *big.Int) {
		r, last := rowOf(v, moduli), len(moduli)-1
		q := moduli[last]
		for _, n := range factors(q) {
			row, e := s.Scale(r, n)
			switch {
			case n%q == 0 || n < 1:
				checkError(t, row, e, api.ErrArg, "Scale(%v, %d) by %v", r, n, moduli)
			case last == 0:
				checkError(t, row, e, api.ErrDown, "Scale(%v, %d) by %v", r, n, moduli)
			default:
				want := rowOf(divided(t, v, offset(v, q, n), q), moduli[:last])
				checkRow(t, row, e, want, "Scale(%v, %d) by %v", r, n, moduli)
			}
		}
	})
}

// P4.5: the factor is refused if it is 0 or above MaxMod or the last prime divides it, also in a system of one prime; other primes may divide it.
func TestScaleRefuses(t *testing.T) {
	for _, moduli := range allSystems(t) {
		s, r, q := system(t, moduli...), make([]uint32, len(moduli)), moduli[len(moduli)-1]
		for _, n := range []uint32{0, q, q * 2, top / q * q, math.MaxUint32 / q * q, top + 1, top + 2, math.MaxUint32 - 1, math.MaxUint32} {
			row, e := s.Scale(r, n)
			checkError(t, row, e, api.ErrArg, "Scale(%v, %d) by %v", r, n, moduli)
		}
		for _, p := range moduli[:len(moduli)-1] {
			if row, e := s.Scale(r, p); e != api.OK || !slices.Equal(row, r[1:]) {
				t.Errorf("Scale(%v, %d) by %v: %v, error %d", r, p, moduli, row, e)
			}
		}
	}
}

// checkMost tests that a |v| is at most b |w| + c: a quotient is bounded without a rounding.
func checkMost(t *testing.T, q uint32, v, w *big.Int, c int64, what string) {
	t.Helper()
	left := new(big.Int).Mul(big.NewInt(int64(q)), new(big.Int).Abs(v))
	right := new(big.Int).Add(new(big.Int).Abs(w), big.NewInt(c))
	if left.Cmp(right) > 0 {
		t.Fatalf("%s: %d times %d is more than %d", what, q, v, right)
	}
}

// joined returns the integer for which a row stands.
func joined(t *testing.T, s *System, r []uint32) *big.Int {
	t.Helper()
	x, e := s.Join(r)
	if e != api.OK {
		t.Fatalf("Join(%v): error %d", r, e)
	}
	return exact(x)
}

// P4.8: the bounds of d and of the quotient in P4.4; the quotient fits the system without the last prime.
func TestBoundsOfDrop(t *testing.T) {
	forAll(t, allSystems(t), func(s *System, moduli []uint32, v *big.Int) {
		last := len(moduli) - 1
		if last == 0 {
			return
		}
		q := moduli[last]
		row, d, _ := s.Drop(rowOf(v, moduli))
		if most := int64(q-1) / 2; d > most || d < -most {
			t.Fatalf("Drop of %d by %v: d is %d", v, moduli, d)
		}
		y := joined(t, system(t, moduli[:last]...), row)
		if want := divided(t, v, big.NewInt(d), q); y.Cmp(want) != 0 {
			t.Fatalf("Drop of %d by %v stands for %d; want %d", v, moduli, y, want)
		}
		checkMost(t, q, y, v, int64(q-1)/2, "Drop")
	})
}

// P4.8: the bound of the quotient in P4.5, its residue modulo t if q is 1 modulo t, and Scale with t = 1.
func TestBoundsOfScale(t *testing.T) {
	// The last primes of the first systems are 1 modulo 17, 17 and 289.
	lists := append([][]uint32{chain(t, 5), {3, 5, top, 103}, {101, 65537, 3469}}, allSystems(t)...)
	met := 0
	forAll(t, lists, func(s *System, moduli []uint32, v *big.Int) {
		last := len(moduli) - 1
		if last == 0 {
			return
		}
		q, r := moduli[last], rowOf(v, moduli)
		lower := system(t, moduli[:last]...)
		for _, n := range []uint32{1, 2, 17, 289} {
			if n%q == 0 {
				continue
			}
			row, e := s.Scale(r, n)
			y := divided(t, v, offset(v, q, n), q)
			if new(big.Int).Abs(y).Cmp(half(moduli[:last])) > 0 {
				continue
			}
			if got := joined(t, lower, row); e != api.OK || got.Cmp(y) != 0 {
				t.Fatalf("Scale of %d by %v, t = %d: %d, error %d; want %d", v, moduli, n, got, e, y)
			}
			checkMost(t, q, y, v, int64(n)*int64(q-1)/2, "Scale")
			if q%n == 1 && n > 1 {
				met++
				if new(big.Int).Mod(new(big.Int).Sub(v, y), big.NewInt(int64(n))).Sign() != 0 {
					t.Fatalf("Scale of %d by %v, t = %d: %d is not the same modulo t", v, moduli, n, y)
				}
			}
		}
		dropped, _, _ := s.Drop(r)
		scaled, e := s.Scale(r, 1)
		checkRow(t, scaled, e, dropped, "Scale(%v, 1) by %v", r, moduli)
	})
	if met < 1000 {
		t.Errorf("q is 1 modulo t in %d cases only", met)
	}
}
