package wide

import "obscura/api"

// integer is a sign and the digits of an absolute value, as in digits.go; zero has no digits, and neg is false. Integers share digits, so no digits of an integer are changed.
type integer struct {
	neg    bool
	digits []uint32
}

// integerOf returns the integer of a valid form.
func integerOf(x api.Wide) integer {
	digits := make([]uint32, (len(x.Mag)+3)/4)
	for i := range len(x.Mag) {
		digits[i/4] |= uint32(x.Mag[len(x.Mag)-1-i]) << (8 * (i % 4))
	}
	return integer{neg: x.Neg, digits: digits}
}

// form returns the form of an integer, or ErrRange if it is too long.
func form(x integer) (api.Wide, api.Errno) {
	if len(x.digits) > maxDigits {
		return api.Wide{}, api.ErrRange
	}
	list := make([]byte, (length(x.digits)+7)/8)
	for i := range list {
		list[len(list)-1-i] = byte(x.digits[i/4] >> (8 * (i % 4)))
	}
	return api.Wide{Neg: x.neg, Mag: string(list)}, api.OK
}

// signs returns what makes an integer of digits, with zeros at the top or without: it gives it the sign, unless it is zero.
func signs(neg bool) func(digits []uint32) integer {
	return func(digits []uint32) integer {
		digits = trim(digits)
		return integer{neg: neg && len(digits) > 0, digits: digits}
	}
}

// negative returns -x.
func negative(x integer) integer { return signs(!x.neg)(x.digits) }

// order returns -1, 0 or 1 as x is less than, equal to, or greater than y.
func order(x, y integer) int {
	switch {
	case x.neg && !y.neg:
		return -1
	case y.neg && !x.neg:
		return 1
	case x.neg:
		return compare(y.digits, x.digits)
	}
	return compare(x.digits, y.digits)
}

// sum returns x + y.
func sum(x, y integer) integer {
	signed := signs(x.neg)
	switch {
	case x.neg == y.neg:
		return signed(plus(x.digits, y.digits))
	case compare(x.digits, y.digits) >= 0:
		return signed(minus(x.digits, y.digits))
	}
	return negative(signed(minus(y.digits, x.digits)))
}

// product returns x y.
func product(x, y integer) integer {
	return signs(x.neg != y.neg)(times(x.digits, y.digits))
}
