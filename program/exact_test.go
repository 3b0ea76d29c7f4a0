package program

import (
	"math/big"
	"slices"

	"loftblock/api"
)

const top = 1 << 60

func f(num, den int) api.Frac { return api.Frac{Num: num, Den: den} }

func row(kind, right int, coefs ...int) api.Row {
	return api.Row{Coefs: coefs, Kind: kind, Right: right}
}

func with(cost []int, rows ...api.Row) api.Program { return api.Program{Cost: cost, Rows: rows} }

// filled returns a program of some size with the same numbers everywhere.
func filled(variables, rows, cost, coef, kind, right int) api.Program {
	p := api.Program{Cost: slices.Repeat([]int{cost}, variables)}
	for range rows {
		p.Rows = append(p.Rows, row(kind, right, slices.Repeat([]int{coef}, variables)...))
	}
	return p
}

func copied(p api.Program) api.Program {
	c := api.Program{Cost: slices.Clone(p.Cost), Rows: slices.Clone(p.Rows)}
	for i, r := range c.Rows {
		c.Rows[i].Coefs = slices.Clone(r.Coefs)
	}
	return c
}

// numbers returns a function that returns one pseudo-random number after the other, always the same ones, from low to high.
func numbers() func(low, high int) int {
	state := uint64(1)
	return func(low, high int) int {
		state = state*6364136223846793005 + 1442695040888963407
		return low + int(state>>33)%(high-low+1)
	}
}

func value(a api.Frac) *big.Rat { return big.NewRat(int64(a.Num), int64(a.Den)) }

func integer(n int) *big.Rat { return big.NewRat(int64(n), 1) }

func isFraction(a api.Frac) bool {
	if a.Den < 1 || a.Den > top || a.Num < -top || a.Num > top {
		return false
	}
	r := value(a)
	return r.Num().Int64() == int64(a.Num) && r.Denom().Int64() == int64(a.Den)
}

func areFractions(list []api.Frac) bool {
	return !slices.ContainsFunc(list, func(a api.Frac) bool { return !isFraction(a) })
}

func inBounds(r *big.Rat) bool {
	return r.Num().CmpAbs(big.NewInt(top)) <= 0 && r.Denom().Cmp(big.NewInt(top)) <= 0
}

// added returns the sum of numbers times fractions, and whether all results on the way fit.
func added(numbers []int, x []api.Frac) (*big.Rat, bool) {
	sum, fit := new(big.Rat), true
	for i, n := range numbers {
		part := new(big.Rat).Mul(integer(n), value(x[i]))
		sum = new(big.Rat).Add(sum, part)
		fit = fit && inBounds(part) && inBounds(sum)
	}
	return sum, fit
}

// holds reports whether a point is feasible, and whether all sums fit.
func holds(p api.Program, x []api.Frac) (is, fit bool) {
	is, fit = true, true
	for _, a := range x {
		is = is && a.Num >= 0
	}
	for _, r := range p.Rows {
		sum, ok := added(r.Coefs, x)
		fit = fit && ok
		order := sum.Cmp(integer(r.Right))
		switch r.Kind {
		case api.AtMost:
			is = is && order <= 0
		case api.AtLeast:
			is = is && order >= 0
		case api.Equal:
			is = is && order == 0
		}
	}
	return is, fit
}

// bound returns the sum of the right-hand sides times multipliers, whether these are right and for no variable the sum is more than the cost, and whether all sums fit.
func bound(p api.Program, cost []int, y []api.Frac) (right *big.Rat, is, fit bool) {
	is, fit = true, true
	var rights []int
	for i, r := range p.Rows {
		rights = append(rights, r.Right)
		if r.Kind == api.AtMost && y[i].Num > 0 || r.Kind == api.AtLeast && y[i].Num < 0 {
			is = false
		}
	}
	for j, c := range cost {
		var column []int
		for _, r := range p.Rows {
			column = append(column, r.Coefs[j])
		}
		sum, ok := added(column, y)
		is, fit = is && sum.Cmp(integer(c)) <= 0, fit && ok
	}
	right, ok := added(rights, y)
	return right, is, fit && ok
}

// proved reports whether an answer is right, and whether all sums fit.
func proved(p api.Program, a api.Answer) (is, fit bool) {
	feasible, fitX := holds(p, a.X)
	cost, fitCost := added(p.Cost, a.X)
	right, proves, fitY := bound(p, p.Cost, a.Y)
	want := value(a.Value)
	return feasible && proves && cost.Cmp(want) == 0 && right.Cmp(want) == 0, fitX && fitCost && fitY
}

// refuted reports whether multipliers refute a program, and whether all sums fit.
func refuted(p api.Program, y []api.Frac) (is, fit bool) {
	right, is, fit := bound(p, make([]int, len(p.Cost)), y)
	return is && right.Sign() > 0, fit
}

// enough reports whether a program fits.
func enough(p api.Program) bool {
	factor := func(numbers ...int) *big.Int {
		sum := big.NewInt(1)
		for _, n := range numbers {
			sum.Add(sum, new(big.Int).Abs(big.NewInt(int64(n))))
		}
		return sum
	}
	greatest := factor(p.Cost...)
	product := new(big.Int).Set(greatest)
	for _, r := range p.Rows {
		own := factor(append([]int{r.Right}, r.Coefs...)...)
		product.Mul(product, own)
		if own.Cmp(greatest) > 0 {
			greatest = own
		}
	}
	return product.Cmp(big.NewInt(1<<44)) <= 0 && new(big.Int).Mul(product, greatest).Cmp(big.NewInt(1<<57)) <= 0
}

// corner is a point by its numerators, and their common denominator, which is positive.
type corner struct {
	x     []int
	under int
}

func (c corner) sum(numbers []int) int {
	sum := 0
	for j, n := range numbers {
		sum += n * c.x[j]
	}
	return sum
}

func (c corner) in(p api.Program) bool {
	for _, r := range p.Rows {
		gap := c.sum(r.Coefs) - r.Right*c.under
		if r.Kind != api.AtLeast && gap > 0 || r.Kind != api.AtMost && gap < 0 {
			return false
		}
	}
	return !slices.ContainsFunc(c.x, func(n int) bool { return n < 0 })
}

// det returns a determinant by its first row.
func det(m [][]int) int {
	switch len(m) {
	case 0:
		return 1
	case 1:
		return m[0][0]
	case 2:
		return m[0][0]*m[1][1] - m[0][1]*m[1][0]
	}
	sum, sign := 0, 1
	for j, n := range m[0] {
		var rest [][]int
		for _, r := range m[1:] {
			rest = append(rest, slices.Concat(r[:j], r[j+1:]))
		}
		sum += sign * n * det(rest)
		sign = -sign
	}
	return sum
}

// cross returns the only point in which all equations hold, if there is one.
func cross(coefs [][]int, rights []int) (corner, bool) {
	under := det(coefs)
	if under == 0 {
		return corner{}, false
	}
	c := corner{under: max(under, -under)}
	for j := range coefs {
		var m [][]int
		for i, r := range coefs {
			changed := slices.Clone(r)
			changed[j] = rights[i]
			m = append(m, changed)
		}
		c.x = append(c.x, det(m)*(under/c.under))
	}
	return c, true
}

// corners returns all corners of the feasible points: those in which as many rows, or variables, are tight as there are variables.
func corners(p api.Program) []corner {
	var coefs [][]int
	var rights []int
	for _, r := range p.Rows {
		coefs, rights = append(coefs, r.Coefs), append(rights, r.Right)
	}
	for j := range p.Cost {
		unit := make([]int, len(p.Cost))
		unit[j] = 1
		coefs, rights = append(coefs, unit), append(rights, 0)
	}
	var list []corner
	for set := range 1 << len(coefs) {
		var some [][]int
		var sides []int
		for i := range coefs {
			if set>>i&1 == 1 {
				some, sides = append(some, coefs[i]), append(sides, rights[i])
			}
		}
		if len(some) == len(p.Cost) {
			if c, ok := cross(some, sides); ok && c.in(p) {
				list = append(list, c)
			}
		}
	}
	return list
}

// directions returns the program of the directions in which feasible points go on without an end.
func directions(p api.Program) api.Program {
	d := copied(p)
	for i := range d.Rows {
		d.Rows[i].Right = 0
	}
	d.Rows = append(d.Rows, row(api.Equal, 1, slices.Repeat([]int{1}, len(p.Cost))...))
	return d
}

// solved finds the least value among all corners: since no variable is negative, there is a corner if there is a feasible point.
func solved(p api.Program) (*big.Rat, api.Errno) {
	list := corners(p)
	if len(list) == 0 {
		return nil, api.ErrGap
	}
	for _, d := range corners(directions(p)) {
		if d.sum(p.Cost) < 0 {
			return nil, api.ErrFree
		}
	}
	var least *big.Rat
	for _, c := range list {
		if r := big.NewRat(int64(c.sum(p.Cost)), int64(c.under)); least == nil || r.Cmp(least) < 0 {
			least = r
		}
	}
	return least, api.OK
}
