package ring

import (
	"math"
	"math/big"
	"math/rand"
	"slices"
	"testing"

	"obscura/api"
)

const top = api.MaxMod

var dimensions = []int{4, 8, 16, 32}

// noDimensions are numbers that are none; 2 is one of layer 6, and the last ones are dimensions modulo 2^32.
var noDimensions = []int{math.MinInt, -32, -4, -1, 0, 1, 2, 3, 5, 6, 7, 9, 12, 24, 31, 33, 64, 128, math.MaxInt, 1<<32 + 4, 1<<32 + 32, -1<<32 + 8}

// ofChapter are the parameters of the examples.
var ofChapter = api.Params{N: 4, Chain: []uint32{17, 97}, Special: 41}

// below returns the greatest odd numbers up to a limit, or the greatest odd primes.
func below(limit uint32, count int, primes bool) []uint32 {
	var list []uint32
	for m := limit | 1; len(list) < count; m -= 2 {
		if m <= limit && (!primes || prime(m)) {
			list = append(list, m)
		}
	}
	return list
}

func prime(m uint32) bool { return number(m).ProbablyPrime(0) }

func number(v uint32) *big.Int { return big.NewInt(int64(v)) }

// rings are parameters of all dimensions: small and great moduli, primes and others, one and as many as there may be, in several orders, with and without a special modulus. What else is in the parameters does not matter.
func rings() []api.Params {
	great := below(top, 25, false)
	primes := below(top, 25, true)
	odd := below(51, 25, false)
	up := slices.Clone(odd)
	slices.Reverse(up)
	var list []api.Params
	for _, n := range dimensions {
		list = append(list,
			api.Params{N: n, Chain: []uint32{17, 97}, Special: 41, Prime: 17, Power: 2, Weight: n / 2, Err: 3},
			api.Params{N: n, Chain: []uint32{3}},
			api.Params{N: n, Chain: []uint32{top}, Special: 3, Prime: math.MaxUint32, Power: math.MinInt, Weight: -1, Err: math.MaxUint32},
			api.Params{N: n, Chain: []uint32{9, 15, 3, 45}, Special: 21},
			api.Params{N: n, Chain: []uint32{3, 5, 7}, Special: top, Prime: 4, Power: -7},
			api.Params{N: n, Chain: great[:24], Special: great[24]},
			api.Params{N: n, Chain: primes[1:], Special: primes[0]},
			api.Params{N: n, Chain: up[:24]},
			api.Params{N: n, Chain: []uint32{65537, top, 3, 257}},
		)
	}
	return list
}

// ofPrimes reports whether the moduli of a shape are primes.
func (s shape) ofPrimes() bool {
	return !slices.ContainsFunc(s.moduli(), func(m uint32) bool { return !prime(m) })
}

// shape is what an element of parameters is like.
type shape struct {
	p       api.Params
	level   int
	special bool
}

// shapes are the shapes of the elements of parameters; of a long chain, some levels.
func shapes(p api.Params) []shape {
	var list []shape
	for level := 1; level <= len(p.Chain); level++ {
		if level > 3 && level != len(p.Chain)/2 && level < len(p.Chain)-1 {
			continue
		}
		list = append(list, shape{p, level, false})
		if p.Special != 0 {
			list = append(list, shape{p, level, true})
		}
	}
	return list
}

// forAll calls a test for the shapes of all rings.
func forAll(t *testing.T, f func(s shape, r *rand.Rand)) {
	t.Helper()
	r := rand.New(rand.NewSource(91))
	for _, p := range rings() {
		for _, s := range shapes(p) {
			f(s, r)
		}
	}
}

// moduli returns the moduli of a shape in their order.
func (s shape) moduli() []uint32 {
	list := slices.Clone(s.p.Chain[:s.level])
	if s.special {
		list = append(list, s.p.Special)
	}
	return list
}

// product returns the product of the moduli.
func (s shape) product() *big.Int {
	q := big.NewInt(1)
	for _, m := range s.moduli() {
		q.Mul(q, number(m))
	}
	return q
}

// of returns the element with integer coefficients.
func (s shape) of(list []*big.Int) api.Elem {
	a := api.Elem{Level: s.level, Special: s.special}
	for _, m := range s.moduli() {
		row := make([]uint32, len(list))
		for i, v := range list {
			row[i] = uint32(new(big.Int).Mod(v, number(m)).Uint64())
		}
		a.Rows = append(a.Rows, row)
	}
	return a
}

// ofInts returns the element with integer coefficients.
func (s shape) ofInts(list ...int64) api.Elem { return s.of(exact(list)) }

// exact returns a list as integers of any size.
func exact(list []int64) []*big.Int {
	var result []*big.Int
	for _, v := range list {
		result = append(result, big.NewInt(v))
	}
	return result
}

// unit returns the coefficients of v x^k.
func (s shape) unit(k int, v int64) []int64 {
	list := make([]int64, s.p.N)
	list[k] = v
	return list
}

// drawn returns an element, many of whose residues are extreme.
func (s shape) drawn(r *rand.Rand) api.Elem {
	a := api.Elem{Level: s.level, Special: s.special}
	for _, m := range s.moduli() {
		row := make([]uint32, s.p.N)
		for i := range row {
			other := uint32(r.Int63n(int64(m)))
			row[i] = []uint32{0, 1, m - 1, m / 2, m/2 + 1, other, other, other, other}[r.Intn(9)]
		}
		a.Rows = append(a.Rows, row)
	}
	return a
}

// elements are elements of all kinds: 0, 1, the powers of x, the greatest residues, and some others.
func (s shape) elements(r *rand.Rand) []api.Elem {
	list := []api.Elem{s.ofInts(make([]int64, s.p.N)...), s.ofInts(slices.Repeat([]int64{-1}, s.p.N)...)}
	for _, k := range []int{0, 1, s.p.N / 2, s.p.N - 1} {
		list = append(list, s.ofInts(s.unit(k, 1)...), s.ofInts(s.unit(k, -1)...))
	}
	return append(list, s.drawn(r), s.drawn(r), s.drawn(r))
}

// rowwise returns the element whose rows are calculated from the rows of others by integers.
func (s shape) rowwise(f func(rows ...[]*big.Int) []*big.Int, elements ...api.Elem) api.Elem {
	result := api.Elem{Level: s.level, Special: s.special}
	for i, m := range s.moduli() {
		var rows [][]*big.Int
		for _, a := range elements {
			var row []*big.Int
			for _, c := range a.Rows[i] {
				row = append(row, number(c))
			}
			rows = append(rows, row)
		}
		var row []uint32
		for _, v := range f(rows...) {
			row = append(row, uint32(new(big.Int).Mod(v, number(m)).Uint64()))
		}
		result.Rows = append(result.Rows, row)
	}
	return result
}

// exactProduct returns the product of two polynomials modulo x^n + 1.
func exactProduct(a, b []*big.Int) []*big.Int {
	n := len(a)
	list := exact(make([]int64, n))
	for i, x := range a {
		for j, y := range b {
			term := new(big.Int).Mul(x, y)
			if i+j < n {
				list[i+j].Add(list[i+j], term)
			} else {
				list[i+j-n].Sub(list[i+j-n], term)
			}
		}
	}
	return list
}

// substituted returns a(x^k) modulo x^n + 1, by the rest of each power of x.
func substituted(a []*big.Int, k int) []*big.Int {
	n := len(a)
	list := exact(make([]int64, n))
	for i, v := range a {
		power, sign := i*k, big.NewInt(1)
		for ; power >= n; power -= n {
			sign.Neg(sign)
		}
		list[power].Add(list[power], sign.Mul(sign, v))
	}
	return list
}

// balanced returns the balanced coefficients of an element of prime moduli, by the theorem of the Chinese remainders.
func (s shape) balanced(a api.Elem) []*big.Int {
	q := s.product()
	list := exact(make([]int64, s.p.N))
	for i, m := range s.moduli() {
		others := new(big.Int).Quo(q, number(m))
		weight := new(big.Int).Mul(others, new(big.Int).ModInverse(others, number(m)))
		for j, c := range a.Rows[i] {
			list[j].Add(list[j], new(big.Int).Mul(weight, number(c)))
		}
	}
	half := new(big.Int).Rsh(q, 1)
	for _, v := range list {
		if v.Mod(v, q); v.Cmp(half) > 0 {
			v.Sub(v, q)
		}
	}
	return list
}

// exactWide returns the integer that a valid form stands for.
func exactWide(x api.Wide) *big.Int {
	v := new(big.Int).SetBytes([]byte(x.Mag))
	if x.Neg {
		v.Neg(v)
	}
	return v
}

// wideOf returns the form of an integer.
func wideOf(v *big.Int) api.Wide { return api.Wide{Neg: v.Sign() < 0, Mag: string(v.Bytes())} }

// wides returns the forms of integers.
func wides(list []*big.Int) []api.Wide {
	var result []api.Wide
	for _, v := range list {
		result = append(result, wideOf(v))
	}
	return result
}

// norm returns the greatest absolute value of integers.
func norm(list []*big.Int) *big.Int {
	most := new(big.Int)
	for _, v := range list {
		if v.CmpAbs(most) > 0 {
			most.Abs(v)
		}
	}
	return most
}

// equal reports whether two elements have the same level, the same moduli, and the same residues.
func equal(a, b api.Elem) bool {
	if a.Level != b.Level || a.Special != b.Special || len(a.Rows) != len(b.Rows) {
		return false
	}
	for i := range a.Rows {
		if !slices.Equal(a.Rows[i], b.Rows[i]) {
			return false
		}
	}
	return true
}

// copied returns an element with rows of its own.
func copied(a api.Elem) api.Elem {
	a.Rows = slices.Clone(a.Rows)
	for i, row := range a.Rows {
		a.Rows[i] = slices.Clone(row)
	}
	return a
}

// checkElem tests an element that was returned without an error.
func checkElem(t *testing.T, got api.Elem, e api.Errno, want api.Elem, format string, values ...any) {
	t.Helper()
	if e != api.OK || !equal(got, want) {
		t.Fatalf(format+": %v, error %d; want %v", append(values, got, e, want)...)
	}
}

// checkNone tests that there is ErrArg and no element beside it.
func checkNone(t *testing.T, got api.Elem, e api.Errno, format string, values ...any) {
	t.Helper()
	if e != api.ErrArg || got.Level != 0 || got.Special || len(got.Rows) != 0 {
		t.Fatalf(format+": %v, error %d; want ErrArg", append(values, got, e)...)
	}
}

// must returns a result that has no error.
func must[T any](t *testing.T) func(v T, e api.Errno) T {
	return func(v T, e api.Errno) T {
		t.Helper()
		if e != api.OK {
			t.Fatalf("error %d", e)
		}
		return v
	}
}

// answer is what a call returned.
type answer struct {
	name  string
	elem  api.Elem
	wides []api.Wide
	norm  api.Wide
	e     api.Errno
}

// empty reports whether there is nothing beside the error.
func (c answer) empty() bool {
	return c.elem.Level == 0 && !c.elem.Special && len(c.elem.Rows) == 0 && len(c.wides) == 0 && c.norm == (api.Wide{})
}

// alone calls all functions that receive one element.
func alone(p api.Params, a api.Elem) []answer {
	list := []answer{{name: "Check", e: Check(p, a)}}
	note := func(name string) func(got api.Elem, e api.Errno) {
		return func(got api.Elem, e api.Errno) { list = append(list, answer{name: name, elem: got, e: e}) }
	}
	note("Neg")(Neg(p, a))
	note("MulInt")(MulInt(p, a, 3))
	note("Auto")(Auto(p, a, 3))
	note("Restrict")(Restrict(p, a, 1, false))
	note("Restrict to the same")(Restrict(p, a, a.Level, a.Special))
	w, e := Wides(p, a)
	list = append(list, answer{name: "Wides", wides: w, e: e})
	n, e := Norm(p, a)
	return append(list, answer{name: "Norm", norm: n, e: e})
}

// pairs calls all functions that receive two elements.
func pairs(p api.Params, a, b api.Elem) []answer {
	var list []answer
	for _, o := range operations {
		got, e := o.call(p, a, b)
		list = append(list, answer{name: o.name, elem: got, e: e})
	}
	return list
}

var operations = []struct {
	name string
	call func(p api.Params, a, b api.Elem) (api.Elem, api.Errno)
}{{"Add", Add}, {"Sub", Sub}, {"Mul", Mul}}
