package program

import (
	"slices"

	"loftblock/api"
	"loftblock/ratio"
)

// table is a simplex table. Its columns are those of the variables; the slack of each row (always 0 for an equation); the lack of each row, by which it is not satisfied yet; and the right-hand sides. Its rows are those of the program, the costs, and the sum of the lacks. All numbers are multiples of 1/under.
//
// Each row of the program has a basic column, which is 1 there and 0 in all other rows. The numbers are determinants of parts of the first table, up to their signs, or sums of a few of them: since the program fits, they have less than 48 bits.
type table struct {
	rows      [][]int
	basis     []int // the basic column of each row
	signs     []int // -1 for a row that was turned, so that its right-hand side is not negative
	under     int
	variables int
}

// newTable returns the table of a program in which all variables and slacks are 0.
func newTable(p api.Program) *table {
	variables, count := len(p.Cost), len(p.Rows)
	t := &table{under: 1, variables: variables}
	width := variables + 2*count + 1
	costs, lacks := make([]int, width), make([]int, width)
	copy(costs, p.Cost)
	for i, r := range p.Rows {
		row := make([]int, width)
		copy(row, r.Coefs)
		row[variables+i] = slackSign(r.Kind)
		row[width-1] = r.Right
		sign := 1
		if r.Right < 0 {
			sign = -1
			turn(row)
		}
		for j, n := range row {
			lacks[j] -= n
		}
		row[variables+count+i] = 1
		t.rows = append(t.rows, row)
		t.basis = append(t.basis, variables+count+i)
		t.signs = append(t.signs, sign)
	}
	t.rows = append(t.rows, costs, lacks)
	return t
}

// slackSign returns the number that is multiplied by the slack of a row, so that the row becomes an equation.
func slackSign(kind int) int {
	switch kind {
	case api.AtMost:
		return 1
	case api.AtLeast:
		return -1
	}
	return 0
}

// turn turns the signs of a row.
func turn(row []int) {
	for j, n := range row {
		row[j] = -n
	}
}

// costs returns the row of the costs.
func (t *table) costs() []int {
	return t.rows[len(t.basis)]
}

// lacks returns the row of the sum of the lacks.
func (t *table) lacks() []int {
	return t.rows[len(t.basis)+1]
}

// right returns the index of the right-hand sides.
func (t *table) right() int {
	return t.firstLack() + len(t.basis)
}

// firstLack returns the index of the first lack. Only columns before it enter the basis.
func (t *table) firstLack() int {
	return t.variables + len(t.basis)
}

// fill lowers the sum of the lacks as far as possible, and reports whether none is left.
func (t *table) fill() bool {
	t.lower(t.lacks())
	return t.lacks()[t.right()] == 0
}

// lower goes on to the least sum of costs, and reports whether there is one. The least indices are chosen, since the same basis never comes back then.
func (t *table) lower(costs []int) bool {
	for {
		column := slices.IndexFunc(costs[:t.firstLack()], func(n int) bool { return n < 0 })
		if column < 0 {
			return true
		}
		row := t.leaving(column)
		if row < 0 {
			return false
		}
		t.pivot(row, column)
	}
}

// leaving returns the row that first keeps a column from growing, or -1 if none does.
func (t *table) leaving(column int) int {
	first := -1
	for i := range t.basis {
		if t.rows[i][column] > 0 && (first < 0 || t.before(i, first, column)) {
			first = i
		}
	}
	return first
}

// before reports whether row i keeps a column from growing before row k does.
func (t *table) before(i, k, column int) bool {
	right := t.right()
	order := crossed(t.rows[i][right], t.rows[k][column], t.rows[k][right], t.rows[i][column]).sign()
	return order < 0 || order == 0 && t.basis[i] < t.basis[k]
}

// pivot makes a column basic in a row where it is positive.
func (t *table) pivot(row, column int) {
	own := t.rows[row]
	for i, other := range t.rows {
		if i == row {
			continue
		}
		factor := other[column]
		for j, n := range other {
			other[j] = crossed(own[column], n, factor, own[j]).over(t.under)
		}
	}
	t.under = own[column]
	t.basis[row] = column
}

// release takes the lacks, which are all 0, out of the basis, so that they stay 0. A lack remains in a row that depends on the others: all other columns are 0 there, and stay so.
func (t *table) release() {
	for i, row := range t.rows[:len(t.basis)] {
		if t.basis[i] < t.firstLack() {
			continue
		}
		column := slices.IndexFunc(row[:t.firstLack()], func(n int) bool { return n != 0 })
		if column < 0 {
			continue
		}
		if row[column] < 0 {
			turn(row)
		}
		t.pivot(i, column)
	}
}

// value returns the sum of the costs.
func (t *table) value() api.Frac {
	return t.fraction(-t.costs()[t.right()])
}

// point returns the variables.
func (t *table) point() []api.Frac {
	x := make([]api.Frac, t.variables)
	for j := range x {
		x[j] = whole(0)
	}
	for i, column := range t.basis {
		if column < t.variables {
			x[column] = t.fraction(t.rows[i][t.right()])
		}
	}
	return x
}

// multipliers returns the numbers of times that the rows were taken from a row of costs, in which each lack began with the given cost.
func (t *table) multipliers(costs []int, lack int) []api.Frac {
	y := make([]api.Frac, len(t.basis))
	for i, sign := range t.signs {
		y[i] = t.fraction(sign * (lack*t.under - costs[t.firstLack()+i]))
	}
	return y
}

// fraction returns a number of the table as a fraction, which fits.
func (t *table) fraction(n int) api.Frac {
	a, _ := ratio.Make(n, t.under)
	return a
}
