package program

import (
	"loftblock/api"
	"loftblock/ratio"
)

// sums returns for each list of numbers the sum of them times valid fractions.
func sums(lists [][]int, fractions []api.Frac) ([]api.Frac, api.Errno) {
	all := make([]api.Frac, len(lists))
	for k, numbers := range lists {
		all[k] = whole(0)
		for i, n := range numbers {
			part, err := ratio.Mul(whole(n), fractions[i])
			if err != api.OK {
				return nil, err
			}
			if all[k], err = ratio.Add(all[k], part); err != api.OK {
				return nil, err
			}
		}
	}
	return all, api.OK
}

// weighted returns for each variable the sum of its coefficients times the multipliers of the rows, and last that of the right-hand sides.
func weighted(p api.Program, y []api.Frac) ([]api.Frac, api.Errno) {
	last := len(p.Cost)
	lists := make([][]int, last+1)
	for _, r := range p.Rows {
		for j, n := range r.Coefs {
			lists[j] = append(lists[j], n)
		}
		lists[last] = append(lists[last], r.Right)
	}
	return sums(lists, y)
}

// satisfies reports whether a sum of coefficients times fractions is as the row asks.
func satisfies(sum api.Frac, r api.Row) bool {
	order := compared(sum, r.Right)
	switch r.Kind {
	case api.AtMost:
		return order <= 0
	case api.AtLeast:
		return order >= 0
	}
	return order == 0
}

// rightSigns reports whether no multiplier has a sign that its row does not allow.
func rightSigns(p api.Program, y []api.Frac) bool {
	for i, r := range p.Rows {
		if r.Kind == api.AtMost && y[i].Num > 0 || r.Kind == api.AtLeast && y[i].Num < 0 {
			return false
		}
	}
	return true
}

// allAtMost reports whether no bound is less than its sum.
func allAtMost(sums []api.Frac, bounds []int) bool {
	for j, bound := range bounds {
		if compared(sums[j], bound) > 0 {
			return false
		}
	}
	return true
}

// compared returns -1, 0, or 1 if a valid fraction is less than n, n, or greater.
func compared(a api.Frac, n int) int {
	order, _ := ratio.Cmp(a, whole(n))
	return order
}

// whole returns n as a fraction.
func whole(n int) api.Frac {
	return api.Frac{Num: n, Den: 1}
}
