package quadratic

import (
	"math/bits"

	"loftblock/api"
	"loftblock/ratio"
)

// parabola is a piece times a positive number, by which its coefficients are integers: the signs of its values are those of the piece.
type parabola struct{ a, b, c number }

// instant is the time num / den since the From of a piece.
type instant struct{ num, den number }

func parabolaOf(p api.Piece3) parabola {
	return parabola{
		a: product(p.A.Num, p.B.Den, p.C.Den),
		b: product(p.B.Num, p.A.Den, p.C.Den),
		c: product(p.C.Num, p.A.Den, p.B.Den),
	}
}

// since returns the time num / den, with a positive den, as one since the From of a piece.
func since(p api.Piece3, num, den int) instant {
	return instant{product(num, p.From.Den).minus(product(p.From.Num, den)), product(p.From.Den, den)}
}

// value returns the sign of the value.
func (q parabola) value(u instant) int {
	level := q.a.times(u.den).plus(q.b.times(u.num))
	return level.times(u.den).plus(q.c.times(u.num).times(u.num)).sign()
}

// slope returns the sign of the slope.
func (q parabola) slope(u instant) int {
	return q.b.times(u.den).plus(q.c.plus(q.c).times(u.num)).sign()
}

// falls reports whether the values right after u are less than 0.
func (q parabola) falls(u instant) bool {
	if value := q.value(u); value != 0 {
		return value < 0
	}
	if slope := q.slope(u); slope != 0 {
		return slope < 0
	}
	return q.c.sign() < 0
}

// dips reports whether a value after from, and not after to, is less than 0, if the one at from is not.
func (q parabola) dips(from, to instant) bool {
	if q.value(to) < 0 {
		return true
	}
	// Between two values that are not, only the lowest value may be less than 0.
	if q.c.sign() <= 0 || q.slope(from) >= 0 || q.slope(to) <= 0 {
		return false
	}
	return product(4).times(q.a).times(q.c).minus(q.b.times(q.b)).sign() < 0
}

// firstBelow returns the first time below zero of a part in milliseconds, and whether there is one.
func firstBelow(p part) (api.Span, bool) {
	q := parabolaOf(p.piece)
	from, to := since(p.piece, p.from.Num, p.from.Den), since(p.piece, p.to.Num, p.to.Den)
	switch {
	case q.value(from) < 0, p.from != p.to && q.falls(from):
		return milliseconds(p.from), true
	case !q.dips(from, to):
		return api.Span{}, false
	}
	// The time is after from, and the value at it is 0: so it is before a millisecond if and only if the curve dips until then.
	start, low, high := milliseconds(p.from).Lo, milliseconds(p.from).Lo, milliseconds(p.to).Hi
	for high-low > 1 {
		middle := low + (high-low)/2
		if q.dips(from, since(p.piece, middle, 1000)) {
			high = middle
		} else {
			low = middle
		}
	}
	// A millisecond that is not after from was not asked, and cannot be the time.
	if low > start && q.falls(since(p.piece, low, 1000)) {
		high = low
	}
	return api.Span{Lo: low, Hi: high}, true
}

// milliseconds returns a time within the limit in milliseconds, rounded down and up.
func milliseconds(t api.Frac) api.Span {
	seconds, _ := ratio.Floor(t)
	rest := t.Num - seconds*t.Den
	high, low := bits.Mul64(uint64(rest), 1000)
	quotient, left := bits.Div64(high, low, uint64(t.Den))
	at := 1000*seconds + int(quotient)
	if left > 0 {
		return api.Span{Lo: at, Hi: at + 1}
	}
	return api.Span{Lo: at, Hi: at}
}
