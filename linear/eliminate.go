package linear

import (
	"math/bits"
	"slices"

	"loftblock/api"
	"loftblock/ratio"
)

// elimination is a matrix whose columns were made simple from the left to the right. Each pivot column has the last pivot in one row, and zeros in the others. Up to their signs, all numbers are determinants of parts of the given matrix, so none of them gets too large.
type elimination struct {
	rows   [][]int
	pivots []int // the pivot columns; the first one has its pivot in the first row, and so on
	last   int   // the last pivot; 1 before the first one
}

// eliminate returns the elimination of a matrix, which stays as it is.
func eliminate(m api.Matrix) elimination {
	e := elimination{last: 1}
	for _, row := range m {
		e.rows = append(e.rows, slices.Clone(row))
	}
	for column := range m[0] {
		e.simplify(column)
	}
	return e
}

// simplify makes a column a pivot column, unless it is free.
func (e *elimination) simplify(column int) {
	done := len(e.pivots)
	ahead := slices.IndexFunc(e.rows[done:], func(row []int) bool { return row[column] != 0 })
	if ahead < 0 {
		return
	}
	if ahead > 0 {
		e.exchange(done, done+ahead)
	}
	own := e.rows[done]
	for i, row := range e.rows {
		if i == done {
			continue
		}
		factor := row[column]
		for j := range row {
			row[j] = crossed(own[column], row[j], factor, own[j], e.last)
		}
	}
	e.pivots = append(e.pivots, column)
	e.last = own[column]
}

// exchange exchanges two rows. One of them changes its sign, so that the determinant stays the same.
func (e *elimination) exchange(i, j int) {
	e.rows[i], e.rows[j] = e.rows[j], e.rows[i]
	for k, n := range e.rows[j] {
		e.rows[j][k] = -n
	}
}

// null returns the null vector of a free column.
func (e *elimination) null(free int) []api.Frac {
	x := make([]api.Frac, len(e.rows[0]))
	for j := range x {
		x[j] = api.Frac{Den: 1}
	}
	for i, pivot := range e.pivots {
		x[pivot] = e.share(-e.rows[i][free])
	}
	x[free] = api.Frac{Num: 1, Den: 1}
	return x
}

// share returns n divided by the last pivot. Both are determinants, so the fraction fits.
func (e *elimination) share(n int) api.Frac {
	a, _ := ratio.Make(n, e.last)
	return a
}

// crossed returns (a b - c d) / by for a division without a remainder whose result is less than 2^60.
func crossed(a, b, c, d, by int) int {
	high, low := product(a, b)
	lessHigh, lessLow := product(c, d)
	low, borrow := bits.Sub64(low, lessLow, 0)
	high, _ = bits.Sub64(high, lessHigh, borrow)
	negative := int64(high) < 0
	if negative {
		low, borrow = bits.Sub64(0, low, 0)
		high, _ = bits.Sub64(0, high, borrow)
	}
	quotient, _ := bits.Div64(high, low, uint64(max(by, -by)))
	if negative != (by < 0) {
		return -int(quotient)
	}
	return int(quotient)
}

// product returns a b as two words in two's complement.
func product(a, b int) (high, low uint64) {
	high, low = bits.Mul64(uint64(a), uint64(b))
	// As an unsigned number, a negative one is greater by 2^64, which is one in the high word.
	if a < 0 {
		high -= uint64(b)
	}
	if b < 0 {
		high -= uint64(a)
	}
	return high, low
}
