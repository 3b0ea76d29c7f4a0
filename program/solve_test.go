package program

import (
	"reflect"
	"testing"

	"loftblock/api"
)

// isSolved checks what Solve and Farkas return, if the program has this error, or this least value.
func isSolved(t *testing.T, p api.Program) api.Errno {
	t.Helper()
	a, e := Solve(p)
	if e == api.OK {
		if len(a.X) != len(p.Cost) || len(a.Y) != len(p.Rows) || !isFraction(a.Value) || !areFractions(a.X) || !areFractions(a.Y) {
			t.Fatalf("Solve(%v) = %v", p, a)
		}
		if is, _ := proved(p, a); !is {
			t.Errorf("Solve(%v) = %v", p, a)
		}
	} else if !reflect.DeepEqual(a, api.Answer{}) {
		t.Errorf("Solve(%v) = %v, %d", p, a, e)
	}
	y, g := Farkas(p)
	if e != api.ErrGap {
		want := e
		if e == api.OK || e == api.ErrFree {
			want = api.ErrNone
		}
		if g != want || y != nil {
			t.Errorf("Farkas(%v) = %v, %d, but Solve %d", p, y, g, e)
		}
		return e
	}
	if g != api.OK || len(y) != len(p.Rows) || !areFractions(y) {
		t.Fatalf("Farkas(%v) = %v, %d", p, y, g)
	}
	if is, _ := refuted(p, y); !is {
		t.Errorf("Farkas(%v) = %v", p, y)
	}
	return e
}

func TestP5_2Solve(t *testing.T) {
	for _, c := range []struct {
		p api.Program
		v api.Frac
		e api.Errno
	}{
		{two(), f(-14, 5), api.OK},
		{none(), api.Frac{}, api.ErrGap},
		{with([]int{3}), f(0, 1), api.OK},
		{with([]int{0}), f(0, 1), api.OK},
		{with([]int{-3}), api.Frac{}, api.ErrFree},
		{with([]int{1, -1}), api.Frac{}, api.ErrFree},
		{filled(12, 0, 1<<20, 0, 0, 0), f(0, 1), api.OK},
		{filled(12, 0, -1<<20, 0, 0, 0), api.Frac{}, api.ErrFree},
		{with([]int{-1}, row(api.AtLeast, 3, 1), row(api.AtLeast, 4, 1)), api.Frac{}, api.ErrFree},
		{with([]int{-1, 0}, row(api.AtLeast, 3, 0, 1), row(api.AtMost, 2, 0, 1)), api.Frac{}, api.ErrGap},
		{with([]int{1}, row(api.AtMost, -1, 1)), api.Frac{}, api.ErrGap},
		{with([]int{1}, row(api.Equal, -1, 1)), api.Frac{}, api.ErrGap},
		{with([]int{1}, row(api.AtLeast, -1, 1)), f(0, 1), api.OK},
		{with([]int{1}, row(api.Equal, -2, -3)), f(2, 3), api.OK},
		{with([]int{2, 3}, row(api.AtLeast, 4, 1, 1), row(api.AtLeast, 6, 1, 3)), f(9, 1), api.OK},
		{with([]int{1, -1}, row(api.Equal, 2, 1, 1)), f(-2, 1), api.OK},
		{with([]int{1, 2}, row(api.Equal, 2, 1, 1), row(api.Equal, 4, 2, 2)), f(2, 1), api.OK},
		{with([]int{1, 2}, row(api.Equal, 2, 1, 1), row(api.Equal, 5, 2, 2)), api.Frac{}, api.ErrGap},
		{with([]int{-1, 0}, row(api.AtLeast, -3, -1, 1)), api.Frac{}, api.ErrFree},
	} {
		isSolved(t, c.p)
		if a, e := Solve(c.p); a.Value != c.v || e != c.e {
			t.Errorf("Solve(%v) = %v, %d; want %v, %d", c.p, a, e, c.v, c.e)
		}
	}
	want := api.Answer{Value: f(-14, 5), X: []api.Frac{f(8, 5), f(6, 5)}, Y: []api.Frac{f(-2, 5), f(-1, 5)}}
	if a, _ := Solve(two()); !reflect.DeepEqual(a, want) {
		t.Errorf("Solve = %v; want %v", a, want)
	}
}

// agree compares the results for programs with the least values of all corners.
func agree(t *testing.T, list []api.Program) {
	t.Helper()
	seen := map[api.Errno]int{}
	for _, p := range list {
		least, want := solved(p)
		e := isSolved(t, p)
		seen[e]++
		if a, _ := Solve(p); e != want || e == api.OK && value(a.Value).Cmp(least) != 0 {
			t.Errorf("Solve(%v) = %v, %d; want %v, %d", p, a, e, least, want)
		}
	}
	if len(seen) != 3 {
		t.Error(seen)
	}
}

func TestP5_2SmallPrograms(t *testing.T) {
	for _, size := range [][3]int{{1, 1, 2}, {1, 2, 2}, {2, 1, 2}, {3, 1, 1}, {2, 2, 1}} {
		agree(t, small(size[0], size[1], size[2]))
	}
}

func TestP5_2CornersOfMany(t *testing.T) {
	agree(t, few())
	agree(t, hard())
}

// goesDown reports whether there is a feasible point, and a direction from it in which the values go down; unknown if this is too big to tell.
func goesDown(t *testing.T, p api.Program) (down, known bool) {
	still, way := copied(p), copied(p)
	still.Cost = make([]int, len(p.Cost))
	for i := range way.Rows {
		way.Rows[i].Right = 0
	}
	way.Cost = still.Cost
	way.Rows = append(way.Rows, row(api.AtMost, -1, p.Cost...))
	a, e := Solve(still)
	b, g := Solve(way)
	if g == api.ErrBig || g == api.ErrArg {
		return false, false
	}
	start, _ := holds(still, a.X)
	onward, _ := holds(way, b.X)
	return e == api.OK && g == api.OK && start && onward, true
}

func TestP5_2LargePrograms(t *testing.T) {
	seen := map[api.Errno]int{}
	for _, p := range append(large(), steep()...) {
		e := isSolved(t, p)
		if e == api.ErrFree {
			down, known := goesDown(t, p)
			if !known {
				continue
			}
			if !down {
				t.Errorf("Solve(%v) is free", p)
			}
		}
		seen[e]++
	}
	if len(seen) != 3 || seen[api.OK] < 500 || seen[api.ErrGap] < 300 || seen[api.ErrFree] < 100 {
		t.Error(seen)
	}
}

// edges are programs, by their costs and rows of one variable, with the same factors, and whether they fit.
func edges() map[[7]int]bool {
	return map[[7]int]bool{
		{1 << 11, 1 << 11, 1 << 11, 1 << 11, 1, 1, 1}:              true,
		{1 << 11, 1 << 11, 1 << 11, 1<<11 + 1, 1, 1, 1}:            false,
		{1<<11 + 1, 1 << 11, 1 << 11, 1 << 11, 1, 1, 1}:            false,
		{1 << 11, 1 << 11, 1 << 11, 1 << 10, 2, 1, 1}:              true,
		{1 << 11, 1 << 11, 1 << 11, 1 << 10, 2, 1, 2}:              false,
		{1 << 8, 1 << 6, 1 << 6, 1 << 6, 1 << 6, 1 << 6, 1 << 6}:   true,
		{1 << 7, 1 << 7, 1 << 6, 1 << 6, 1 << 6, 1 << 6, 1 << 6}:   true,
		{1 << 7, 1 << 6, 1 << 7, 1 << 6, 1 << 6, 1 << 6, 1<<6 + 1}: false,
		{1 << 13, 1 << 13, 1 << 13, 1 << 5, 1, 1, 1}:               true,
		{1, 1 << 13, 1 << 13, 1 << 13, 1 << 5, 1, 1}:               true,
		{1 << 13, 1 << 13, 1 << 13, 1<<5 + 1, 1, 1, 1}:             false,
		{1<<13 + 1, 1 << 13, 1 << 13, 1<<5 - 1, 1, 1, 1}:           true,
		{1 << 14, 1 << 13, 1 << 12, 1 << 5, 1, 1, 1}:               false,
		{1, 1, 1, 1 << 14, 1 << 13, 1 << 13, 1 << 3}:               true,
		{1, 1, 1, 1 << 14, 1 << 13, 1 << 13, 1<<3 + 1}:             false,
		{1, 379625062, 1, 1, 1, 1, 1}:                              true,
		{1, 379625063, 1, 1, 1, 1, 1}:                              false,
		{2, 1 << 28, 1, 1, 1, 1, 1}:                                true,
		{2, 1<<28 + 1, 1, 1, 1, 1, 1}:                              false,
		{1 << 20, 1 << 18, 1, 1, 1, 1, 1}:                          false,
		{1 << 20, 1 << 17, 1, 1, 1, 1, 1}:                          true,
		{1 << 17, 1 << 20, 1, 1, 1, 1, 1}:                          true,
		{1 << 17, 1 << 20, 1, 1, 1, 1, 2}:                          false,
		{1 << 20, 1 << 30, 1 << 30, 1 << 30, 1 << 30, 1 << 30, 1}:  false,
		{1, 1 << 30, 1 << 30, 1 << 30, 1 << 30, 1 << 30, 1 << 30}:  false,
		{1 << 20, 1, 1, 1, 1, 1, 1}:                                true,
		{1, 1, 1, 1, 1, 1, 1}:                                      true,
	}
}

// byFactors returns programs of two variables with the given factors, in which they come from the coefficients, from the right-hand sides, or from both.
func byFactors(factors [7]int) []api.Program {
	var list []api.Program
	for _, share := range []int{0, 1, 2} {
		for _, sign := range []int{1, -1} {
			p := with([]int{sign * (factors[0] - 1) / 2, factors[0] - 1 - (factors[0]-1)/2})
			for i, factor := range factors[1:] {
				rest := factor - 1
				one := min(rest*share/4, 1<<20)
				two := -sign * min((rest-one)*share/2, 1<<20)
				right := rest - one - max(two, -two)
				p.Rows = append(p.Rows, row(1+i%3, sign*right, one, two))
			}
			if Valid(p) {
				list = append(list, p)
			}
		}
	}
	return list
}

func TestP5_2Fits(t *testing.T) {
	for factors, fit := range edges() {
		list := byFactors(factors)
		if len(list) == 0 {
			t.Errorf("no programs with the factors %v", factors)
		}
		for _, p := range list {
			if enough(p) != fit {
				t.Fatalf("%v is no program with the factors %v", p, factors)
			}
			e := isSolved(t, p)
			if (e == api.ErrBig) == fit {
				t.Errorf("Solve(%v) has the error %d, but fits: %t", p, e, fit)
			}
		}
	}
	for _, p := range []api.Program{filled(12, 6, 1<<20, 1<<20, 1, 1<<30), filled(12, 6, -1<<20, -1<<20, 3, -1<<30), filled(4, 5, 1, 250, 1, 4000), filled(12, 6, 5, 7, 2, 9)} {
		if e := isSolved(t, p); e != api.ErrBig {
			t.Errorf("Solve(%v) has the error %d", p, e)
		}
	}
}
