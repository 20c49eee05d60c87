package ring

import (
	"math/rand"
	"slices"
	"testing"

	"obscura/api"
)

// law tests that two ways lead to the same element.
func law(t *testing.T, what string, s shape, left, right api.Elem) {
	t.Helper()
	if !equal(left, right) {
		t.Fatalf("%s for %v: %v and %v", what, s, left, right)
	}
}

// P9.8: sums and products are commutative and associative, and products distribute over sums.
func TestLaws(t *testing.T) {
	forAll(t, func(s shape, r *rand.Rand) {
		add := func(a, b api.Elem) api.Elem { return must[api.Elem](t)(Add(s.p, a, b)) }
		mul := func(a, b api.Elem) api.Elem { return must[api.Elem](t)(Mul(s.p, a, b)) }
		for range 3 {
			a, b, c := s.drawn(r), s.drawn(r), s.drawn(r)
			law(t, "a + b = b + a", s, add(a, b), add(b, a))
			law(t, "a b = b a", s, mul(a, b), mul(b, a))
			law(t, "(a + b) + c = a + (b + c)", s, add(add(a, b), c), add(a, add(b, c)))
			law(t, "(a b) c = a (b c)", s, mul(mul(a, b), c), mul(a, mul(b, c)))
			law(t, "a (b + c) = a b + a c", s, mul(a, add(b, c)), add(mul(a, b), mul(a, c)))
			law(t, "1 a = a", s, mul(s.ofInts(s.unit(0, 1)...), a), a)
			law(t, "0 + a = a", s, add(s.ofInts(s.unit(0, 0)...), a), a)
			law(t, "a - b = a + (-b)", s, must[api.Elem](t)(Sub(s.p, a, b)), add(a, must[api.Elem](t)(Neg(s.p, b))))
			law(t, "7 a", s, must[api.Elem](t)(MulInt(s.p, a, 7)), mul(a, s.ofInts(s.unit(0, 7)...)))
		}
	})
}

// P9.8: automorphisms are compatible with sums and products, and their composition is that of their numbers.
func TestAutomorphisms(t *testing.T) {
	forAll(t, func(s shape, r *rand.Rand) {
		a, b := s.drawn(r), s.drawn(r)
		auto := func(a api.Elem, k int) api.Elem { return must[api.Elem](t)(Auto(s.p, a, k)) }
		law(t, "Auto by 1", s, auto(a, 1), a)
		for k := 1; k < 2*s.p.N; k += 2 {
			for _, o := range operations {
				both := must[api.Elem](t)(o.call(s.p, auto(a, k), auto(b, k)))
				law(t, "Auto after "+o.name, s, auto(must[api.Elem](t)(o.call(s.p, a, b)), k), both)
			}
			for _, l := range []int{1, 3, 5, s.p.N - 1, s.p.N + 1, 2*s.p.N - 1} {
				law(t, "Auto by k after Auto by l", s, auto(auto(a, l), k), auto(a, k*l%(2*s.p.N)))
			}
		}
	})
}

// P9.8: restrictions are compatible with all operations and with each other, and FromInts gives the same at each level.
func TestRestrictions(t *testing.T) {
	forAll(t, func(s shape, r *rand.Rand) {
		a, b := s.drawn(r), s.drawn(r)
		l := s.integers(r)
		for _, low := range shapes(s.p) {
			if low.level > s.level || low.special && !s.special {
				continue
			}
			lower := func(a api.Elem) api.Elem {
				t.Helper()
				return must[api.Elem](t)(Restrict(s.p, a, low.level, low.special))
			}
			for _, o := range operations {
				both := must[api.Elem](t)(o.call(s.p, lower(a), lower(b)))
				law(t, "Restrict after "+o.name, s, lower(must[api.Elem](t)(o.call(s.p, a, b))), both)
			}
			for what, f := range map[string]func(a api.Elem) (api.Elem, api.Errno){
				"Neg":    func(a api.Elem) (api.Elem, api.Errno) { return Neg(s.p, a) },
				"MulInt": func(a api.Elem) (api.Elem, api.Errno) { return MulInt(s.p, a, -12345) },
				"Auto":   func(a api.Elem) (api.Elem, api.Errno) { return Auto(s.p, a, s.p.N+1) },
			} {
				law(t, "Restrict after "+what, s, lower(must[api.Elem](t)(f(a))), must[api.Elem](t)(f(lower(a))))
			}
			law(t, "Restrict twice", s, must[api.Elem](t)(Restrict(s.p, lower(a), 1, false)), must[api.Elem](t)(Restrict(s.p, a, 1, false)))
			for _, list := range slices.Concat(l[:4], l[len(l)-2:]) {
				ints := must[api.Elem](t)(FromInts(s.p, s.level, s.special, list))
				law(t, "Restrict after FromInts", s, lower(ints), must[api.Elem](t)(FromInts(s.p, low.level, low.special, list)))
			}
		}
	})
}
