package program

import (
	"math/big"
	"testing"
)

// exact returns a wide number as one of any length.
func (w wide) exact() *big.Int {
	n := new(big.Int).SetUint64(w.high)
	n.Lsh(n, 64).Add(n, new(big.Int).SetUint64(w.low))
	if w.negative {
		n.Neg(n)
	}
	return n
}

func TestP5_6WideNumbers(t *testing.T) {
	next := numbers()
	list := []int{0, 1, -1, 2, -2, 3, 1<<31 - 1, 1 << 32, -1 << 32, 1<<59 - 1, 1 << 60, -1 << 60, 1<<62 - 1, -1<<62 + 1, next(-1<<30, 1<<30), next(1<<30, 1<<31) << 29}
	for _, a := range list {
		for _, b := range list {
			for _, c := range list {
				for _, d := range list {
					first, second := new(big.Int).Mul(big.NewInt(int64(a)), big.NewInt(int64(b))), new(big.Int).Mul(big.NewInt(int64(c)), big.NewInt(int64(d)))
					want := first.Sub(first, second)
					w := crossed(a, b, c, d)
					if w.exact().Cmp(want) != 0 || w.sign() != want.Sign() {
						t.Fatalf("%d %d - %d %d = %v, with the sign %d; want %v", a, b, c, d, w.exact(), w.sign(), want)
					}
				}
			}
			if b > 0 && product(a, b).over(b) != a {
				t.Errorf("%d %d / %d = %d", a, b, b, product(a, b).over(b))
			}
		}
	}
}
