// Package decimal is layer 1: decimal numbers, their rounding, and tokens of texts; see shared/doc/01-decimal.md.
package decimal

import (
	"strings"

	"loftblock/api"
)

const (
	maxNumber = 1 << 60
	maxUnit   = 1 << 40
	maxDigits = 9

	// The longest text has the 19 digits of 2^60, a minus sign, and a point.
	longest = 21
)

// Format returns the decimal text of n with the given number of digits after the point.
func Format(n, digits int) (string, api.Errno) {
	if !isCount(digits) {
		return "", api.ErrRange
	}
	if !isNumber(n) {
		return "", api.ErrBig
	}
	text := make([]byte, longest)
	at := len(text)
	rest := max(n, -n)
	// There is a digit before the point even if nothing is left for it.
	for done := 0; done <= digits || rest > 0; done++ {
		if done == digits && digits > 0 {
			at--
			text[at] = '.'
		}
		at--
		text[at] = byte('0' + rest%10)
		rest /= 10
	}
	if n < 0 {
		at--
		text[at] = '-'
	}
	return string(text[at:]), api.OK
}

// Parse returns the number n for which s stands for n / 10^digits.
func Parse(s string, digits int) (int, api.Errno) {
	if !isCount(digits) {
		return 0, api.ErrRange
	}
	unsigned, negative := strings.CutPrefix(s, "-")
	whole, part, pointed := strings.Cut(unsigned, ".")
	if !isWhole(whole) || pointed && !isPart(part, digits) {
		return 0, api.ErrForm
	}
	n, fits := value(whole + part + strings.Repeat("0", digits-len(part)))
	if !fits {
		return 0, api.ErrBig
	}
	if negative {
		n = -n
	}
	return n, api.OK
}

// Round returns how many units the multiple of the unit next to n has; halves go up.
func Round(n, unit int) (int, api.Errno) {
	if unit < 1 || unit > maxUnit {
		return 0, api.ErrRange
	}
	if !isNumber(n) {
		return 0, api.ErrBig
	}
	m, rest := n/unit, n%unit
	// The division of Go goes towards zero; here it has to go down.
	if rest < 0 {
		m--
		rest += unit
	}
	if 2*rest >= unit {
		m++
	}
	return m, api.OK
}

func isCount(digits int) bool {
	return digits >= 0 && digits <= maxDigits
}

func isNumber(n int) bool {
	return n >= -maxNumber && n <= maxNumber
}

// isWhole reports whether s is an integral part without superfluous zeros.
func isWhole(s string) bool {
	return isDigits(s) && (s == "0" || s[0] != '0')
}

// isPart reports whether s may stand after the point.
func isPart(s string, digits int) bool {
	return isDigits(s) && len(s) <= digits
}

func isDigits(s string) bool {
	return s != "" && prefix(s, isDigit) == len(s)
}

// value returns the number that digits stand for, and whether it fits. It looks ahead before each step, since a step too far wraps around.
func value(digits string) (int, bool) {
	n := 0
	for _, c := range []byte(digits) {
		d := int(c - '0')
		if n > (maxNumber-d)/10 {
			return 0, false
		}
		n = 10*n + d
	}
	return n, true
}
