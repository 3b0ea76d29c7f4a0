package quadratic

import (
	"math"
	"math/big"
	"testing"
)

// integer returns a number as one of package math/big.
func (x number) integer() *big.Int {
	r := new(big.Int)
	for i := len(x) - 1; i >= 0; i-- {
		r.Lsh(r, 64)
		r.Add(r, new(big.Int).SetUint64(x[i]))
	}
	if x[len(x)-1]>>63 != 0 {
		r.Sub(r, new(big.Int).Lsh(big.NewInt(1), 512))
	}
	return r
}

// wide returns numbers of many sizes, of both signs, up to 240 bits.
func wide() []number {
	list := []number{{}}
	ints := []int{1, -1, 3, 1<<32 - 1, -1 << 32, top, -top, math.MaxInt, math.MinInt, math.MaxInt - 1}
	for _, a := range ints {
		list = append(list, product(a))
		for _, b := range ints {
			list = append(list, product(a, b), product(a, b, a), product(a, b, b, b))
		}
	}
	return list
}

func TestP8_4ManyWords(t *testing.T) {
	for _, x := range wide() {
		for _, y := range wide() {
			a, b := x.integer(), y.integer()
			if x.plus(y).integer().Cmp(new(big.Int).Add(a, b)) != 0 {
				t.Errorf("%v + %v = %v", a, b, x.plus(y).integer())
			}
			if x.minus(y).integer().Cmp(new(big.Int).Sub(a, b)) != 0 {
				t.Errorf("%v - %v = %v", a, b, x.minus(y).integer())
			}
			if z := new(big.Int).Mul(a, b); x.times(y).integer().Cmp(z) != 0 || x.times(y).sign() != z.Sign() {
				t.Errorf("%v times %v = %v", a, b, x.times(y).integer())
			}
		}
		if x.sign() != x.integer().Sign() {
			t.Errorf("the sign of %v is %d", x.integer(), x.sign())
		}
	}
	for _, n := range []int{0, 1, -1, math.MaxInt, math.MinInt} {
		if numberOf(n).integer().Cmp(big.NewInt(int64(n))) != 0 {
			t.Errorf("%d is %v", n, numberOf(n).integer())
		}
	}
}
