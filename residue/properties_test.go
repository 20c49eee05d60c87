package residue

import (
	"math/big"
	"math/rand"
	"slices"
	"testing"

	"obscura/api"
	"obscura/modular"
)

// randomRow returns a row of residues, some of which are extreme.
func randomRow(moduli []uint32, r *rand.Rand) []uint32 {
	row := make([]uint32, len(moduli))
	for i, p := range moduli {
		row[i] = []uint32{0, 1, p / 2, p/2 + 1, p - 1, uint32(r.Int63n(int64(p))), uint32(r.Int63n(int64(p)))}[r.Intn(7)]
	}
	return row
}

// rows are all rows of a small system, and some of a great one.
func rows(moduli []uint32, r *rand.Rand) [][]uint32 {
	var list [][]uint32
	if q := product(moduli); q.Cmp(big.NewInt(2000)) < 0 {
		for v := range q.Int64() {
			list = append(list, rowOf(big.NewInt(v), moduli))
		}
		return list
	}
	for range 60 {
		list = append(list, randomRow(moduli, r))
	}
	return list
}

// P4.6: Split leads back to each row, and Join stays in the range.
func TestJoinAndBack(t *testing.T) {
	r := rand.New(rand.NewSource(11))
	for _, moduli := range allSystems(t) {
		s := system(t, moduli...)
		for _, row := range rows(moduli, r) {
			x, e := s.Join(row)
			if e != api.OK || new(big.Int).Abs(exact(x)).Cmp(half(moduli)) > 0 {
				t.Fatalf("Join(%v) by %v: %d, error %d", row, moduli, exact(x), e)
			}
			back, e := s.Split(x)
			checkRow(t, back, e, row, "Split(Join(%v)) by %v", row, moduli)
		}
	}
}

// P4.6: Join leads back to an integer of the range, and otherwise to its balanced remainder.
func TestSplitAndBack(t *testing.T) {
	r := rand.New(rand.NewSource(12))
	for _, moduli := range allSystems(t) {
		s, q, h := system(t, moduli...), product(moduli), half(moduli)
		list := []*big.Int{h, new(big.Int).Add(h, big.NewInt(1)), q, new(big.Int).Add(q, h), new(big.Int).Add(new(big.Int).Lsh(q, 1), h)}
		for range 30 {
			list = append(list, new(big.Int).Rand(r, new(big.Int).Lsh(q, uint(r.Intn(1200)))))
		}
		for _, v := range list {
			for _, w := range []*big.Int{v, new(big.Int).Neg(v)} {
				row, _ := s.Split(wideOf(w))
				if x, e := s.Join(row); x != wideOf(balancedBy(w, q)) || e != api.OK {
					t.Fatalf("Join(Split(%d)) by %v: %d, error %d", w, moduli, exact(x), e)
				}
			}
		}
	}
}

// combined applies an operation to the residues of two rows.
func combined(a, b, moduli []uint32, f func(a, b, n uint32) (uint32, api.Errno)) []uint32 {
	var row []uint32
	for i, p := range moduli {
		x, _ := f(a[i], b[i], p)
		row = append(row, x)
	}
	return row
}

// P4.6: the residues of sums and products are the sums and products of the residues.
func TestSumsAndProducts(t *testing.T) {
	r := rand.New(rand.NewSource(13))
	for _, moduli := range allSystems(t) {
		s := system(t, moduli...)
		for range 200 {
			a, b := randomRow(moduli, r), randomRow(moduli, r)
			v, w := joined(t, s, a), joined(t, s, b)
			sum, e := s.Split(wideOf(new(big.Int).Add(v, w)))
			checkRow(t, sum, e, combined(a, b, moduli, modular.Add), "Split(%d + %d) by %v", v, w, moduli)
			times, e := s.Split(wideOf(new(big.Int).Mul(v, w)))
			checkRow(t, times, e, combined(a, b, moduli, modular.Mul), "Split(%d * %d) by %v", v, w, moduli)
		}
	}
}

// P4.7: to a system whose product is not less, and back, nothing changes.
func TestConvertAndBack(t *testing.T) {
	r := rand.New(rand.NewSource(14))
	lists := allSystems(t)
	pairs := 0
	for _, moduli := range lists {
		s := system(t, moduli...)
		for _, others := range lists {
			if product(others).Cmp(product(moduli)) < 0 {
				continue
			}
			pairs++
			to := system(t, others...)
			for range 20 {
				row := randomRow(moduli, r)
				there, e := s.Convert(row, to)
				if e != api.OK {
					t.Fatalf("Convert(%v) from %v to %v: error %d", row, moduli, others, e)
				}
				back, e := to.Convert(there, s)
				checkRow(t, back, e, row, "Convert from %v to %v and back", moduli, others)
			}
		}
	}
	if pairs < 2*len(lists) {
		t.Errorf("the test meets %d pairs only", pairs)
	}
}

// P4.7: the ends of the range survive, where the products are equal and where they are not.
func TestConvertTheEnds(t *testing.T) {
	s, to := system(t, 3, 5, 7), system(t, 7, 3, 5)
	for v := int64(-52); v <= 52; v++ {
		row := rowOf(big.NewInt(v), []uint32{3, 5, 7})
		there, _ := s.Convert(row, to)
		if !slices.Equal(there, []uint32{row[2], row[0], row[1]}) {
			t.Errorf("Convert(%v) to 7, 3, 5: %v", row, there)
		}
		next, _ := s.Convert(row, system(t, 107))
		back, e := system(t, 107).Convert(next, s)
		checkRow(t, back, e, row, "Convert(%v) to 107 and back", row)
	}
}
