package ratio

import (
	"math/bits"

	"loftblock/api"
)

// wide is an integer of 128 bits in two's complement. A product of numbers within the limits is at most 2^120, so that sums of two are far from overflow.
type wide struct{ high, low uint64 }

func product(a, b int) wide {
	high, low := bits.Mul64(size(a), size(b))
	w := wide{high, low}
	if (a < 0) != (b < 0) {
		return w.negated()
	}
	return w
}

func (w wide) plus(v wide) wide {
	low, carry := bits.Add64(w.low, v.low, 0)
	high, _ := bits.Add64(w.high, v.high, carry)
	return wide{high, low}
}

func (w wide) negated() wide {
	low, borrow := bits.Sub64(0, w.low, 0)
	high, _ := bits.Sub64(0, w.high, borrow)
	return wide{high, low}
}

func (w wide) sign() int {
	switch {
	case w == wide{}:
		return 0
	case int64(w.high) < 0:
		return -1
	default:
		return 1
	}
}

// size returns the absolute value of w.
func (w wide) size() wide {
	if w.sign() < 0 {
		return w.negated()
	}
	return w
}

// rest returns the remainder of the absolute value of w.
func (w wide) rest(by uint64) uint64 {
	s := w.size()
	return bits.Rem64(s.high, s.low, by)
}

// over returns w divided by a divisor of it.
func (w wide) over(by uint64) wide {
	s := w.size()
	// bits.Div64 panics if its quotient has more than one word, so the high word is divided first.
	low, _ := bits.Div64(s.high%by, s.low, by)
	quotient := wide{s.high / by, low}
	if w.sign() < 0 {
		return quotient.negated()
	}
	return quotient
}

// number returns w as an int, and whether it may stand in a fraction.
func (w wide) number() (int, bool) {
	s := w.size()
	if s.high != 0 || s.low > api.MaxFrac {
		return 0, false
	}
	return int(w.low), true
}
