package wide

import (
	"strconv"
	"strings"

	"obscura/api"
)

// Decimal digits are converted in groups that fit into a digit to the base 2^32.
const (
	groupSize = 9
	groupBase = 1_000_000_000
)

// Read returns the integer of a decimal text.
func Read(s string) (api.Wide, api.Errno) {
	text, neg := strings.CutPrefix(s, "-")
	digits, ok := readDigits(text)
	zeros := strings.HasPrefix(text, "0") && (neg || len(text) > 1)
	if !ok || zeros {
		return api.Wide{}, api.ErrForm
	}
	return form(signs(neg)(digits))
}

// Text returns the decimal text of x.
func Text(x api.Wide) (string, api.Errno) {
	if !Valid(x) {
		return "", api.ErrArg
	}
	text := writeDigits(integerOf(x).digits)
	if x.Neg {
		text = "-" + text
	}
	return text, api.OK
}

// readDigits returns the number that decimal digits stand for, or false if there are none or something else is among them. Of a number that is too long it returns another one that is too long.
func readDigits(text string) (digits []uint32, ok bool) {
	ok = text != ""
groups:
	for len(text) > 0 {
		// The last group is full, so the first one may be short.
		size := (len(text)-1)%groupSize + 1
		group := uint32(0)
		for i := range size {
			if text[i] < '0' || text[i] > '9' {
				digits, ok = nil, false
				break groups
			}
			group = 10*group + uint32(text[i]-'0')
		}
		// A number that is too long stays so, and need not grow.
		if len(digits) <= maxDigits {
			digits = scaled(digits, groupBase, group)
		}
		text = text[size:]
	}
	return digits, ok
}

// writeDigits returns the decimal digits of a number.
func writeDigits(digits []uint32) string {
	if len(digits) == 0 {
		return "0"
	}
	text := ""
	for len(digits) > 0 {
		rest, group := splitDigit(digits, groupBase)
		part := strconv.FormatUint(uint64(group), 10)
		if len(rest) > 0 {
			part = strings.Repeat("0", groupSize-len(part)) + part
		}
		digits, text = rest, part+text
	}
	return text
}
