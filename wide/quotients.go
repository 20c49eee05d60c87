package wide

import "obscura/api"

// Div returns the integers q and r with a = q b + r and r from 0 to |b| - 1.
func Div(a, b api.Wide) (quotient, rest api.Wide, e api.Errno) {
	if !Valid(a) || !Valid(b) || b.Mag == "" {
		return api.Wide{}, api.Wide{}, api.ErrArg
	}
	q, r := divide(integerOf(a), integerOf(b))
	quotient, _ = form(q)
	rest, _ = form(r)
	return quotient, rest, api.OK
}

// Round returns the integer nearest to a / b, the greater one if two are equally near.
func Round(a, b api.Wide) (api.Wide, api.Errno) {
	if !positive(b) {
		return api.Wide{}, api.ErrArg
	}
	return binary(a, b, nearest)
}

// Balanced returns the integer r for which m divides a - r, with 2 r above -m and at most m.
func Balanced(a, m api.Wide) (api.Wide, api.Errno) {
	if !positive(m) {
		return api.Wide{}, api.ErrArg
	}
	return binary(a, m, balanced)
}

// Mod returns the residue of a.
func Mod(a api.Wide, n uint32) (uint32, api.Errno) {
	if !Valid(a) || n == 0 {
		return 0, api.ErrArg
	}
	_, rest := splitDigit(integerOf(a).digits, n)
	if a.Neg && rest > 0 {
		rest = n - rest
	}
	return rest, api.OK
}

// positive reports whether x is the form of an integer above 0.
func positive(x api.Wide) bool { return Valid(x) && x.Mag != "" && !x.Neg }

// divide returns the quotient and the rest, which is not negative; y is not 0.
func divide(x, y integer) (quotient, rest integer) {
	signed := signs(x.neg != y.neg)
	q, r := split(x.digits, y.digits)
	if x.neg && len(r) > 0 {
		// Of a negative number one |y| more is taken away, so that the rest becomes positive.
		q, r = plus(q, unit()), minus(y.digits, r)
	}
	return signed(q), signs(false)(r)
}

// nearest rounds x / y for y above 0.
func nearest(x, y integer) integer {
	q, r := divide(x, y)
	// Twice the rest might be too long, so the rest is compared with what it lacks to y.
	if order(r, sum(y, negative(r))) >= 0 {
		return sum(q, signs(false)(unit()))
	}
	return q
}

// balanced returns the rest of x by y, above 0, or that minus y if it is more than a half of y.
func balanced(x, y integer) integer {
	_, r := divide(x, y)
	if lack := sum(y, negative(r)); order(r, lack) > 0 {
		return negative(lack)
	}
	return r
}
