package span

import (
	"math/bits"

	"loftblock/api"
)

// quotient is the number a b / c, of numbers within the limits, and c is not zero.
type quotient struct{ a, b, c int }

// around returns the least span that contains all candidates. Each of them is a result of an operation, so the results do not fit if one of them does not.
func around(candidates ...quotient) (api.Span, api.Errno) {
	// Each candidate lies between the limits, so the first one replaces both ends.
	all := api.Span{Lo: limit, Hi: -limit}
	for _, q := range candidates {
		own, fits := q.span()
		if !fits {
			return api.Span{}, api.ErrBig
		}
		all = api.Span{Lo: min(all.Lo, own.Lo), Hi: max(all.Hi, own.Hi)}
	}
	return all, api.OK
}

// span returns the least span that contains q, and whether there is one.
func (q quotient) span() (api.Span, bool) {
	high, low := bits.Mul64(size(q.a), size(q.b))
	by := size(q.c)
	// bits.Div64 panics if its quotient has more than one word.
	if high >= by {
		return api.Span{}, false
	}
	whole, rest := bits.Div64(high, low, by)
	if whole > limit || whole == limit && rest > 0 {
		return api.Span{}, false
	}
	inner, outer := int(whole), int(whole)
	if rest > 0 {
		outer++
	}
	if (q.a < 0) != (q.b < 0) != (q.c < 0) {
		return api.Span{Lo: -outer, Hi: -inner}, true
	}
	return api.Span{Lo: inner, Hi: outer}, true
}

// size returns the absolute value of a number within the limits.
func size(n int) uint64 {
	return uint64(max(n, -n))
}
