// Package span is layer 3: intervals of integers, rounded outward; see shared/doc/03-span.md.
package span

import (
	"sort"

	"loftblock/api"
	"loftblock/ratio"
)

const (
	limit   = 1 << 60
	maxRoot = 1 << 30
	maxUnit = 1 << 40
)

// Valid reports whether a is a span within the limits.
func Valid(a api.Span) bool {
	return -limit <= a.Lo && a.Lo <= a.Hi && a.Hi <= limit
}

// Add returns the span of a + b.
func Add(a, b api.Span) (api.Span, api.Errno) {
	if !Valid(a) || !Valid(b) {
		return api.Span{}, api.ErrArg
	}
	return fitting(a.Lo+b.Lo, a.Hi+b.Hi)
}

// Sub returns the span of a - b.
func Sub(a, b api.Span) (api.Span, api.Errno) {
	if !Valid(a) || !Valid(b) {
		return api.Span{}, api.ErrArg
	}
	return fitting(a.Lo-b.Hi, a.Hi-b.Lo)
}

// Mul returns the span of a times b.
func Mul(a, b api.Span) (api.Span, api.Errno) {
	if !Valid(a) || !Valid(b) {
		return api.Span{}, api.ErrArg
	}
	return around(quotient{a.Lo, b.Lo, 1}, quotient{a.Lo, b.Hi, 1}, quotient{a.Hi, b.Lo, 1}, quotient{a.Hi, b.Hi, 1})
}

// Div returns the span of a / b.
func Div(a, b api.Span) (api.Span, api.Errno) {
	if !Valid(a) || !Valid(b) {
		return api.Span{}, api.ErrArg
	}
	if b.Lo <= 0 && b.Hi >= 0 {
		return api.Span{}, api.ErrZero
	}
	return around(quotient{a.Lo, 1, b.Lo}, quotient{a.Lo, 1, b.Hi}, quotient{a.Hi, 1, b.Lo}, quotient{a.Hi, 1, b.Hi})
}

// Times returns the span of a times num / den.
func Times(a api.Span, num, den int) (api.Span, api.Errno) {
	switch {
	case !Valid(a):
		return api.Span{}, api.ErrArg
	case den == 0:
		return api.Span{}, api.ErrZero
	case !isNumber(num) || !isNumber(den):
		return api.Span{}, api.ErrRange
	default:
		return around(quotient{a.Lo, num, den}, quotient{a.Hi, num, den})
	}
}

// Hull returns the least span that contains a and b.
func Hull(a, b api.Span) (api.Span, api.Errno) {
	if !Valid(a) || !Valid(b) {
		return api.Span{}, api.ErrArg
	}
	return api.Span{Lo: min(a.Lo, b.Lo), Hi: max(a.Hi, b.Hi)}, api.OK
}

// Meet returns the span of the numbers that a and b share.
func Meet(a, b api.Span) (api.Span, api.Errno) {
	if !Valid(a) || !Valid(b) {
		return api.Span{}, api.ErrArg
	}
	both := api.Span{Lo: max(a.Lo, b.Lo), Hi: min(a.Hi, b.Hi)}
	if both.Lo > both.Hi {
		return api.Span{}, api.ErrNone
	}
	return both, api.OK
}

// Of returns the span of a fraction times a unit.
func Of(a api.Frac, unit int) (api.Span, api.Errno) {
	if !ratio.Valid(a) {
		return api.Span{}, api.ErrArg
	}
	if unit < 1 || unit > maxUnit {
		return api.Span{}, api.ErrRange
	}
	return around(quotient{a.Num, unit, a.Den})
}

// Root returns the span of the square root of a.
func Root(a api.Span) (api.Span, api.Errno) {
	if !Valid(a) {
		return api.Span{}, api.ErrArg
	}
	if a.Lo < 0 {
		return api.Span{}, api.ErrRange
	}
	above := sort.Search(maxRoot+1, func(r int) bool { return r*r > a.Lo })
	reached := sort.Search(maxRoot, func(r int) bool { return r*r >= a.Hi })
	return api.Span{Lo: above - 1, Hi: reached}, api.OK
}

func isNumber(n int) bool {
	return n >= -limit && n <= limit
}

// fitting returns the span from lo to hi, if it is within the limits.
func fitting(lo, hi int) (api.Span, api.Errno) {
	s := api.Span{Lo: lo, Hi: hi}
	if !Valid(s) {
		return api.Span{}, api.ErrBig
	}
	return s, api.OK
}
