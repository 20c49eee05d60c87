package residue

import (
	"math"
	"math/big"
	"math/rand"
	"slices"
	"testing"

	"obscura/api"
)

// P4.1: systems of all sizes, in every order of the primes.
func TestNew(t *testing.T) {
	for _, moduli := range allSystems(t) {
		s := system(t, moduli...)
		if got := s.Moduli(); !slices.Equal(got, moduli) {
			t.Errorf("Moduli of %v: %v", moduli, got)
		}
		if got := s.Product(); got != wideOf(product(moduli)) {
			t.Errorf("Product of %v: %d", moduli, exact(got))
		}
	}
	if got := system(t, 3, 5, 7).Product(); exact(got).Int64() != 105 {
		t.Errorf("Product of 3, 5, 7: %d", exact(got))
	}
	if q := product(greatest(t)); q.BitLen() != 775 {
		t.Errorf("the greatest product has %d bits", q.BitLen())
	}
}

// P4.1: what is no system is refused: no primes or too many, the prime 2, equal primes, other numbers, primes above MaxMod.
func TestNewRefuses(t *testing.T) {
	refuse := func(moduli ...uint32) {
		t.Helper()
		if s, e := New(moduli); s != nil || e != api.ErrArg {
			t.Errorf("New(%v): error %d; want ErrArg", moduli, e)
		}
	}
	refuse()
	refuse([]uint32{}...)
	refuse(3, 5, 3)
	refuse(2, 3)
	refuse(9)
	refuse(3, 3)
	refuse(top, 5, 7, top)
	for _, bad := range []uint32{0, 1, 2, 4, 9, 15, 561, 2047, 65536, 46337 * 46337, top - 1, top + 1, 2147483659, 4294967291, math.MaxUint32} {
		refuse(bad)
		refuse(bad, 3, 5)
		refuse(3, bad, 5)
		refuse(3, 5, bad)
	}
	long := append(greatest(t), 3)
	refuse(long...)
	refuse(append(long, 5)...)
	refuse(slices.Repeat([]uint32{3}, 25)...)
	for i := range 25 {
		twice := greatest(t)
		twice[i] = twice[(i+1)%25]
		refuse(twice...)
	}
}

// P4.2: the residues of every integer of the range, and the way back.
func TestSplitAndJoin(t *testing.T) {
	forAll(t, allSystems(t), func(s *System, moduli []uint32, v *big.Int) {
		r, e := s.Split(wideOf(v))
		checkRow(t, r, e, rowOf(v, moduli), "Split(%d) by %v", v, moduli)
		if x, e := s.Join(r); x != wideOf(v) || e != api.OK {
			t.Fatalf("Join(%v) by %v: %d, error %d; want %d", r, moduli, exact(x), e, v)
		}
	})
}

// P4.2: the examples.
func TestSplitAndJoinOfTheChapter(t *testing.T) {
	s := system(t, 3, 5, 7)
	for _, c := range []struct {
		v   int64
		row []uint32
	}{{52, []uint32{1, 2, 3}}, {-1, []uint32{2, 4, 6}}, {1000, []uint32{1, 0, 6}}, {0, []uint32{0, 0, 0}}} {
		r, e := s.Split(wideOf(big.NewInt(c.v)))
		checkRow(t, r, e, c.row, "Split(%d)", c.v)
	}
	for _, c := range []struct {
		row  []uint32
		want int64
	}{{[]uint32{1, 2, 3}, 52}, {[]uint32{2, 4, 6}, -1}, {[]uint32{1, 0, 6}, -50}, {[]uint32{2, 3, 4}, -52}} {
		if x, e := s.Join(c.row); x != wideOf(big.NewInt(c.want)) || e != api.OK {
			t.Errorf("Join(%v): %d, error %d; want %d", c.row, exact(x), e, c.want)
		}
	}
}

// P4.2: any integer may be split, also beyond the range of the system, up to 2048 bits.
func TestSplitAny(t *testing.T) {
	r := rand.New(rand.NewSource(2))
	one := big.NewInt(1)
	end := new(big.Int).Lsh(one, 2048)
	for _, moduli := range allSystems(t) {
		s, q := system(t, moduli...), product(moduli)
		list := []*big.Int{q, new(big.Int).Lsh(q, 1), new(big.Int).Mul(q, q), new(big.Int).Add(half(moduli), one), new(big.Int).Sub(end, one)}
		for _, bits := range []uint{40, 200, 800, 2048} {
			list = append(list, new(big.Int).Rand(r, new(big.Int).Lsh(one, bits)))
		}
		for _, v := range list {
			for _, w := range []*big.Int{v, new(big.Int).Neg(v)} {
				row, e := s.Split(wideOf(w))
				checkRow(t, row, e, rowOf(w, moduli), "Split(%d) by %v", w, moduli)
			}
		}
	}
}

// P4.2: a form that is not valid is refused.
func TestSplitRefuses(t *testing.T) {
	for _, moduli := range [][]uint32{{3}, {3, 5, 7}, greatest(t)} {
		s := system(t, moduli...)
		for _, bad := range badForms() {
			r, e := s.Split(bad)
			checkError(t, r, e, api.ErrArg, "Split of a form that is not valid, by %v", moduli)
		}
	}
}

// The promise at the head of the chapter: what is no row of the system is refused by all that take a row, in each place.
func TestBadRows(t *testing.T) {
	other := system(t, 11)
	for _, moduli := range allSystems(t) {
		s := system(t, moduli...)
		for _, bad := range badRows(moduli) {
			if x, e := s.Join(bad); x != (api.Wide{}) || e != api.ErrArg {
				t.Errorf("Join(%v) by %v: %d, error %d; want ErrArg", bad, moduli, exact(x), e)
			}
			r, e := s.Convert(bad, other)
			checkError(t, r, e, api.ErrArg, "Convert(%v) by %v", bad, moduli)
			r, d, e := s.Drop(bad)
			checkError(t, r, e, api.ErrArg, "Drop(%v) by %v", bad, moduli)
			if d != 0 {
				t.Errorf("Drop(%v) by %v: %d beside an error", bad, moduli, d)
			}
			for _, n := range []uint32{0, 1, 2, math.MaxUint32} {
				r, e = s.Scale(bad, n)
				checkError(t, r, e, api.ErrArg, "Scale(%v, %d) by %v", bad, n, moduli)
			}
		}
	}
}

// P4.3: the residues of the same integer modulo the primes of every other system.
func TestConvert(t *testing.T) {
	targets := append(greatSystems(t)[:8], []uint32{3}, []uint32{11}, []uint32{7, 3, 5}, []uint32{3, 5, 7, 11}, greatest(t))
	var systems []*System
	for _, moduli := range targets {
		systems = append(systems, system(t, moduli...))
	}
	forAll(t, allSystems(t), func(s *System, moduli []uint32, v *big.Int) {
		r := rowOf(v, moduli)
		for i, to := range systems {
			got, e := s.Convert(r, to)
			checkRow(t, got, e, rowOf(v, targets[i]), "Convert(%v) from %v to %v", r, moduli, targets[i])
		}
		same, e := s.Convert(r, s)
		checkRow(t, same, e, r, "Convert(%v) from %v to itself", r, moduli)
	})
}

// P4.3: the example, and the row of a negative integer.
func TestConvertOfTheChapter(t *testing.T) {
	s, to := system(t, 3, 5, 7), system(t, 11)
	for _, c := range []struct {
		row  []uint32
		want uint32
	}{{[]uint32{2, 4, 6}, 10}, {[]uint32{1, 2, 3}, 8}, {[]uint32{1, 0, 6}, 5}} {
		got, e := s.Convert(c.row, to)
		checkRow(t, got, e, []uint32{c.want}, "Convert(%v)", c.row)
	}
}
