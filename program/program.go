// Package program is layer 5: linear programs with proofs; see shared/doc/05-program.md.
package program

import (
	"cmp"
	"slices"

	"loftblock/api"
	"loftblock/ratio"
)

// A program fits if the product of its factors, and that times the greatest factor, are at most these numbers.
const (
	maxProduct = 1 << 44
	maxGreater = 1 << 57
)

// Valid reports whether p is a program within the limits.
func Valid(p api.Program) bool {
	if len(p.Cost) < 1 || len(p.Cost) > api.MaxColumns || len(p.Rows) > api.MaxRows || !within(api.MaxCoef, p.Cost...) {
		return false
	}
	return !slices.ContainsFunc(p.Rows, func(r api.Row) bool {
		return len(r.Coefs) != len(p.Cost) || !within(api.MaxCoef, r.Coefs...) || r.Kind < api.AtMost || r.Kind > api.Equal || !within(api.MaxRight, r.Right)
	})
}

// Solve returns the least value, a feasible point that has it, and multipliers that prove it.
func Solve(p api.Program) (api.Answer, api.Errno) {
	switch {
	case !Valid(p):
		return api.Answer{}, api.ErrArg
	case !fits(p):
		return api.Answer{}, api.ErrBig
	}
	t := newTable(p)
	if !t.fill() {
		return api.Answer{}, api.ErrGap
	}
	t.release()
	if !t.lower(t.costs()) {
		return api.Answer{}, api.ErrFree
	}
	return api.Answer{Value: t.value(), X: t.point(), Y: t.multipliers(t.costs(), 0)}, api.OK
}

// Check reports whether an answer has a feasible point with its value, and multipliers that prove this value.
func Check(p api.Program, a api.Answer) (bool, api.Errno) {
	switch {
	case !Valid(p) || !valid(a.Value) || !valid(a.X...) || !valid(a.Y...):
		return false, api.ErrArg
	case len(a.X) != len(p.Cost) || len(a.Y) != len(p.Rows):
		return false, api.ErrSize
	}
	feasible, errPoint := Feasible(p, a.X)
	value, errValue := Value(p, a.X)
	totals, errTotals := weighted(p, a.Y)
	if err := cmp.Or(errPoint, errValue, errTotals); err != api.OK {
		return false, err
	}
	proved := rightSigns(p, a.Y) && allAtMost(totals, p.Cost) && totals[len(p.Cost)] == a.Value
	return feasible && value == a.Value && proved, api.OK
}

// Feasible reports whether a point satisfies all rows, and has no negative fraction.
func Feasible(p api.Program, x []api.Frac) (bool, api.Errno) {
	switch {
	case !Valid(p) || !valid(x...):
		return false, api.ErrArg
	case len(x) != len(p.Cost):
		return false, api.ErrSize
	}
	var lists [][]int
	for _, r := range p.Rows {
		lists = append(lists, r.Coefs)
	}
	left, err := sums(lists, x)
	if err != api.OK {
		return false, err
	}
	for i, r := range p.Rows {
		if !satisfies(left[i], r) {
			return false, api.OK
		}
	}
	return !slices.ContainsFunc(x, func(a api.Frac) bool { return a.Num < 0 }), api.OK
}

// Value returns the value of a point.
func Value(p api.Program, x []api.Frac) (api.Frac, api.Errno) {
	switch {
	case !Valid(p) || !valid(x...):
		return api.Frac{}, api.ErrArg
	case len(x) != len(p.Cost):
		return api.Frac{}, api.ErrSize
	}
	value, err := sums([][]int{p.Cost}, x)
	if err != api.OK {
		return api.Frac{}, err
	}
	return value[0], api.OK
}

// Farkas returns multipliers that refute a program without a feasible point.
func Farkas(p api.Program) ([]api.Frac, api.Errno) {
	switch {
	case !Valid(p):
		return nil, api.ErrArg
	case !fits(p):
		return nil, api.ErrBig
	}
	t := newTable(p)
	if t.fill() {
		return nil, api.ErrNone
	}
	return t.multipliers(t.lacks(), 1), api.OK
}

// Refutes reports whether multipliers show that a program has no feasible point.
func Refutes(p api.Program, y []api.Frac) (bool, api.Errno) {
	switch {
	case !Valid(p) || !valid(y...):
		return false, api.ErrArg
	case len(y) != len(p.Rows):
		return false, api.ErrSize
	}
	totals, err := weighted(p, y)
	if err != api.OK {
		return false, err
	}
	none := make([]int, len(p.Cost))
	return rightSigns(p, y) && allAtMost(totals, none) && totals[len(p.Cost)].Num > 0, api.OK
}

// fits reports whether the factors of a valid program are so small that all numbers of its table are, too.
func fits(p api.Program) bool {
	factors := []int{1 + size(p.Cost...)}
	for _, r := range p.Rows {
		factors = append(factors, 1+size(r.Right)+size(r.Coefs...))
	}
	product := 1
	for _, factor := range factors {
		// The product itself might be too large for an int.
		if product > maxProduct/factor {
			return false
		}
		product *= factor
	}
	return product <= maxGreater/slices.Max(factors)
}

// size returns the sum of the absolute values of numbers.
func size(numbers ...int) int {
	sum := 0
	for _, n := range numbers {
		sum += max(n, -n)
	}
	return sum
}

// within reports whether all numbers are from -most to most.
func within(most int, numbers ...int) bool {
	return !slices.ContainsFunc(numbers, func(n int) bool { return n < -most || n > most })
}

// valid reports whether all fractions are valid.
func valid(fractions ...api.Frac) bool {
	return !slices.ContainsFunc(fractions, func(a api.Frac) bool { return !ratio.Valid(a) })
}
