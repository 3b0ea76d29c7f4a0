// Package linear is layer 4: linear equations with exact solutions; see shared/doc/04-linear.md.
package linear

import (
	"slices"

	"loftblock/api"
	"loftblock/ratio"
)

const (
	maxNumber = 32
	maxRight  = 1 << 26
)

// Valid reports whether m is a matrix within the limits.
func Valid(m api.Matrix) bool {
	if len(m) < 1 || len(m) > api.MaxRows {
		return false
	}
	columns := len(m[0])
	if columns < 1 || columns > api.MaxColumns {
		return false
	}
	return !slices.ContainsFunc(m, func(row []int) bool {
		return len(row) != columns || !within(row, maxNumber)
	})
}

// Rank returns the greatest number of rows none of which depends on the others.
func Rank(m api.Matrix) (int, api.Errno) {
	if !Valid(m) {
		return 0, api.ErrArg
	}
	return len(eliminate(m).pivots), api.OK
}

// Det returns the determinant of a square matrix.
func Det(m api.Matrix) (int, api.Errno) {
	if !Valid(m) {
		return 0, api.ErrArg
	}
	if len(m) != len(m[0]) {
		return 0, api.ErrShape
	}
	e := eliminate(m)
	if len(e.pivots) < len(m) {
		return 0, api.OK
	}
	return e.last, api.OK
}

// Solve returns the solution of the equations with the rows of m as coefficients.
func Solve(m api.Matrix, right []int) ([]api.Frac, api.Errno) {
	switch {
	case !Valid(m):
		return nil, api.ErrArg
	case len(right) != len(m):
		return nil, api.ErrSize
	case !within(right, maxRight):
		return nil, api.ErrRange
	}
	columns := len(m[0])
	e := eliminate(extended(m, right))
	switch {
	// The right-hand sides are then no sum of multiples of the columns.
	case slices.Contains(e.pivots, columns):
		return nil, api.ErrGap
	case len(e.pivots) < columns:
		return nil, api.ErrFree
	}
	x := make([]api.Frac, columns)
	for i, pivot := range e.pivots {
		x[pivot] = e.share(e.rows[i][columns])
	}
	return x, api.OK
}

// Null returns the null vectors of m.
func Null(m api.Matrix) ([][]api.Frac, api.Errno) {
	if !Valid(m) {
		return nil, api.ErrArg
	}
	e := eliminate(m)
	var vectors [][]api.Frac
	for column := range m[0] {
		if !slices.Contains(e.pivots, column) {
			vectors = append(vectors, e.null(column))
		}
	}
	return vectors, api.OK
}

// Product returns for each row of m the sum of its numbers times those of x.
func Product(m api.Matrix, x []api.Frac) ([]api.Frac, api.Errno) {
	if !Valid(m) {
		return nil, api.ErrArg
	}
	for _, a := range x {
		if !ratio.Valid(a) {
			return nil, api.ErrArg
		}
	}
	if len(x) != len(m[0]) {
		return nil, api.ErrSize
	}
	sums := make([]api.Frac, len(m))
	for i, row := range m {
		sum, err := combined(row, x)
		if err != api.OK {
			return nil, err
		}
		sums[i] = sum
	}
	return sums, api.OK
}

// Independent returns the indices of the rows that do not depend on those before them.
func Independent(m api.Matrix) ([]int, api.Errno) {
	if !Valid(m) {
		return nil, api.ErrArg
	}
	return eliminate(transposed(m)).pivots, api.OK
}

// within reports whether all numbers of a list are from -most to most.
func within(list []int, most int) bool {
	return !slices.ContainsFunc(list, func(n int) bool { return n < -most || n > most })
}

// extended returns m with the right-hand sides as its last column.
func extended(m api.Matrix, right []int) api.Matrix {
	all := make(api.Matrix, len(m))
	for i, row := range m {
		all[i] = slices.Concat(row, right[i:i+1])
	}
	return all
}

// transposed returns the matrix whose rows are the columns of m.
func transposed(m api.Matrix) api.Matrix {
	columns := make(api.Matrix, len(m[0]))
	for j := range columns {
		columns[j] = make([]int, len(m))
		for i, row := range m {
			columns[j][i] = row[j]
		}
	}
	return columns
}

// combined returns the sum of the numbers of a row times valid fractions.
func combined(row []int, x []api.Frac) (api.Frac, api.Errno) {
	sum := api.Frac{Den: 1}
	for j, n := range row {
		part, err := ratio.Mul(api.Frac{Num: n, Den: 1}, x[j])
		if err == api.OK {
			sum, err = ratio.Add(sum, part)
		}
		if err != api.OK {
			return api.Frac{}, err
		}
	}
	return sum, api.OK
}
