package quadratic

import (
	"math"
	"math/bits"
)

// number is an integer of 512 bits in two's complement, its lowest word first. With times within the limit, no number that First needs has more than 430 bits.
type number [8]uint64

// product returns the product of some ints.
func product(factors ...int) number {
	x := number{1}
	for _, n := range factors {
		x = x.times(numberOf(n))
	}
	return x
}

func numberOf(n int) number {
	x := number{uint64(n)}
	if n < 0 {
		for i := 1; i < len(x); i++ {
			x[i] = math.MaxUint64
		}
	}
	return x
}

func (x number) plus(y number) number {
	carry := uint64(0)
	for i := range x {
		x[i], carry = bits.Add64(x[i], y[i], carry)
	}
	return x
}

func (x number) minus(y number) number {
	borrow := uint64(0)
	for i := range x {
		x[i], borrow = bits.Sub64(x[i], y[i], borrow)
	}
	return x
}

// times returns the product. Words above the highest one are left out, so that it is right for negative numbers, too.
func (x number) times(y number) number {
	var z number
	for i := range x {
		carry := uint64(0)
		for j := range len(y) - i {
			high, low := bits.Mul64(x[i], y[j])
			low, more := bits.Add64(low, carry, 0)
			high += more
			z[i+j], more = bits.Add64(z[i+j], low, 0)
			carry = high + more
		}
	}
	return z
}

func (x number) sign() int {
	switch {
	case x == number{}:
		return 0
	case int64(x[len(x)-1]) < 0:
		return -1
	default:
		return 1
	}
}
