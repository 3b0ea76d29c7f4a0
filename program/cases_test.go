package program

import (
	"slices"

	"loftblock/api"
)

// lists returns all lists of a length with numbers from -most to most.
func lists(length, most int) [][]int {
	all := [][]int{nil}
	for range length {
		var longer [][]int
		for _, list := range all {
			for n := -most; n <= most; n++ {
				longer = append(longer, append(slices.Clone(list), n))
			}
		}
		all = longer
	}
	return all
}

// small returns all programs of a size with coefficients and costs from -1 to 1, and right-hand sides from -most to most.
func small(variables, rows, most int) []api.Program {
	var all []api.Program
	for _, cost := range lists(variables, 1) {
		all = append(all, api.Program{Cost: cost})
	}
	for range rows {
		var longer []api.Program
		for _, p := range all {
			for _, coefs := range lists(variables, 1) {
				for kind := api.AtMost; kind <= api.Equal; kind++ {
					for right := -most; right <= most; right++ {
						longer = append(longer, api.Program{Cost: p.Cost, Rows: append(slices.Clone(p.Rows), row(kind, right, coefs...))})
					}
				}
			}
		}
		all = longer
	}
	return all
}

// mixed returns a program with numbers from -most to most, and right-hand sides from -right to right; often some of its rows depend on others.
func mixed(next func(low, high int) int, variables, rows, most, right int) api.Program {
	p := filled(variables, rows, 0, 0, api.AtMost, 0)
	for j := range p.Cost {
		p.Cost[j] = next(-most, most)
	}
	for i := range p.Rows {
		r := &p.Rows[i]
		r.Kind, r.Right = next(api.AtMost, api.Equal), next(-right, right)
		for j := range r.Coefs {
			r.Coefs[j] = next(-most, most)
		}
	}
	if rows > 1 && next(0, 2) == 0 {
		to, a, b, sign := next(0, rows-1), next(0, rows-1), next(0, rows-1), next(-1, 1)
		for j := range p.Cost {
			p.Rows[to].Coefs[j] = p.Rows[a].Coefs[j] + sign*p.Rows[b].Coefs[j]
		}
		p.Rows[to].Right = p.Rows[a].Right + sign*p.Rows[b].Right
	}
	return p
}

// few returns programs of few variables and rows, for which corners can be counted.
func few() []api.Program {
	next := numbers()
	var list []api.Program
	for variables := 1; variables <= 4; variables++ {
		for rows := range 5 {
			for range 80 {
				list = append(list, mixed(next, variables, rows, 3, 5), mixed(next, variables, rows, 2, 1))
			}
		}
	}
	return list
}

// large returns programs of all sizes whose factors are about as large as they may be, if all are alike. Many have a feasible point.
func large() []api.Program {
	next := numbers()
	var list []api.Program
	for variables := 1; variables <= api.MaxColumns; variables++ {
		for rows := range api.MaxRows + 1 {
			factor := 1 << (44 / (rows + 1))
			for k := range 40 {
				most := max(factor*(3+k%4)/3/(variables+1), 1)
				p := mixed(next, variables, rows, min(most, 1<<19), min(most, 1<<29))
				if k%2 == 0 {
					easier(next, &p)
				}
				if enough(p) {
					list = append(list, p)
				}
			}
		}
	}
	return list
}

// steep returns programs whose common denominators are nearly as large as the product of the factors.
func steep() []api.Program {
	next := numbers()
	var list []api.Program
	for i, factor := range []int{1 << 20, 1 << 18, 13000, 1350, 310, 116} {
		for kind := api.AtMost; kind <= api.Equal; kind++ {
			for k := range 20 {
				p := filled(i+1, i+1, 1-k%2*2, 0, kind, 1)
				for j, r := range p.Rows {
					r.Coefs[j] = factor - 3 - next(0, 3)
					r.Coefs[next(0, i)] += next(-1, 1)
				}
				if k%5 == 4 {
					p.Rows[next(0, i)].Kind = next(api.AtMost, api.Equal)
				}
				if enough(p) {
					list = append(list, p)
				}
			}
		}
	}
	return list
}

// easier gives the rows right-hand sides for which a small point is feasible.
func easier(next func(low, high int) int, p *api.Program) {
	x := make([]int, len(p.Cost))
	for j := range x {
		x[j] = next(0, 1)
	}
	for i := range p.Rows {
		sum := 0
		for j, n := range p.Rows[i].Coefs {
			sum += n * x[j]
		}
		p.Rows[i].Right = sum
	}
	for j, n := range p.Cost {
		if next(0, 3) > 0 {
			p.Cost[j] = max(n, -n)
		}
	}
}

// hard are programs in which the same basis could come back, or that have many corners, or rows that say nothing.
func hard() []api.Program {
	return []api.Program{
		with([]int{-3, 80, -2, 24}, row(api.AtMost, 0, 1, -32, -4, 36), row(api.AtMost, 0, 1, -24, -1, 6), row(api.AtMost, 1, 0, 0, 1, 0)),
		with([]int{-2, -3, 1, 12}, row(api.AtMost, 0, -2, -9, 1, 9), row(api.AtMost, 0, 1, 3, -1, -6), row(api.AtMost, 2, 2, 3, -1, -12)),
		with([]int{-2, -3, 1, 12}, row(api.AtMost, 0, -2, -9, 1, 9), row(api.AtMost, 0, 1, 3, -1, -6)),
		with([]int{-10, 57, 9, 24}, row(api.AtMost, 0, 1, -11, -5, 18), row(api.AtMost, 0, 1, -3, -1, 2), row(api.AtMost, 1, 1, 0, 0, 0)),
		with([]int{-4, -2, -1}, row(api.AtMost, 5, 1, 0, 0), row(api.AtMost, 25, 4, 1, 0), row(api.AtMost, 125, 8, 4, 1)),
		with([]int{-8, -4, -2, -1}, row(api.AtMost, 5, 1, 0, 0, 0), row(api.AtMost, 25, 4, 1, 0, 0), row(api.AtMost, 125, 8, 4, 1, 0), row(api.AtMost, 625, 16, 8, 4, 1)),
		with([]int{0, 0}, row(api.Equal, 0, 0, 0), row(api.AtMost, 0, 0, 0), row(api.AtLeast, 0, 0, 0)),
		with([]int{1, 2}, row(api.Equal, 0, 0, 0), row(api.Equal, 3, 1, 1)),
		with([]int{1, 2}, row(api.Equal, 0, 1, -1), row(api.Equal, 0, -1, 1), row(api.Equal, 4, 1, 1), row(api.Equal, -4, -1, -1)),
		with([]int{1, 2}, row(api.Equal, 1, 0, 0)), with([]int{1, 2}, row(api.AtMost, -1, 0, 0)), with([]int{1, 2}, row(api.AtLeast, 1, 0, 0)),
		with([]int{-1, -2}, row(api.Equal, 0, 1, 1)), with([]int{-1, 1}, row(api.Equal, 0, 1, -1)), with([]int{-2, 1}, row(api.Equal, 0, 1, -1)),
		with([]int{1}, row(api.AtLeast, 5, 1), row(api.AtMost, 5, 1)), with([]int{-1}, row(api.AtLeast, 5, 1), row(api.AtMost, 5, 1)), with([]int{1}, row(api.AtMost, -5, -1)),
		with([]int{1, 1, 1, 1, 1, 1}, row(api.Equal, 1, 1, 1, 0, 0, 0, 0), row(api.Equal, 1, 0, 0, 1, 1, 0, 0), row(api.Equal, 1, 0, 0, 0, 0, 1, 1), row(api.Equal, 1, 1, 0, 1, 0, 1, 0), row(api.Equal, 2, 0, 1, 0, 1, 0, 1)),
	}
}

// turned returns copies of a program with its rows, and its variables, in all turned orders.
func turned(p api.Program) []api.Program {
	var list []api.Program
	for by := range p.Rows {
		c := copied(p)
		c.Rows = slices.Concat(c.Rows[by:], c.Rows[:by])
		list = append(list, c)
		c = copied(c)
		slices.Reverse(c.Rows)
		list = append(list, c)
	}
	for by := range p.Cost {
		c := copied(p)
		c.Cost = slices.Concat(c.Cost[by:], c.Cost[:by])
		for i, r := range c.Rows {
			c.Rows[i].Coefs = slices.Concat(r.Coefs[by:], r.Coefs[:by])
		}
		list = append(list, c)
		c = copied(c)
		slices.Reverse(c.Cost)
		for _, r := range c.Rows {
			slices.Reverse(r.Coefs)
		}
		list = append(list, c)
	}
	return list
}
