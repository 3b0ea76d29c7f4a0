package program

import "math/bits"

// wide is a number by its sign and the two words of its absolute value. The sign of 0 has no meaning.
type wide struct {
	negative  bool
	high, low uint64
}

// product returns a b.
func product(a, b int) wide {
	high, low := bits.Mul64(uint64(max(a, -a)), uint64(max(b, -b)))
	return wide{(a < 0) != (b < 0), high, low}
}

// crossed returns a b - c d.
func crossed(a, b, c, d int) wide {
	return product(a, b).minus(product(c, d))
}

// minus returns w - v, which must have two words.
func (w wide) minus(v wide) wide {
	if w.negative != v.negative {
		low, carry := bits.Add64(w.low, v.low, 0)
		high, _ := bits.Add64(w.high, v.high, carry)
		return wide{w.negative, high, low}
	}
	low, borrow := bits.Sub64(w.low, v.low, 0)
	high, borrow := bits.Sub64(w.high, v.high, borrow)
	if borrow == 0 {
		return wide{w.negative, high, low}
	}
	low, borrow = bits.Sub64(0, low, 0)
	high, _ = bits.Sub64(0, high, borrow)
	return wide{!w.negative, high, low}
}

// over returns w / by for a positive divisor that leaves no remainder, and a result of one word.
func (w wide) over(by int) int {
	quotient, _ := bits.Div64(w.high, w.low, uint64(by))
	if w.negative {
		return -int(quotient)
	}
	return int(quotient)
}

// sign returns -1, 0, or 1 if w is negative, zero, or positive.
func (w wide) sign() int {
	switch {
	case w.high == 0 && w.low == 0:
		return 0
	case w.negative:
		return -1
	}
	return 1
}
