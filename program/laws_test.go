package program

import (
	"reflect"
	"slices"
	"testing"

	"loftblock/api"
)

func TestP5_6Accepted(t *testing.T) {
	list := slices.Concat(few(), large(), steep(), hard())
	for factors := range edges() {
		list = append(list, byFactors(factors)...)
	}
	seen := map[api.Errno]int{}
	for _, p := range list {
		a, e := Solve(p)
		seen[e]++
		switch e {
		case api.OK:
			if ok, g := Check(p, a); !ok || g != api.OK {
				t.Errorf("Check(%v, %v) = %t, %d", p, a, ok, g)
			}
		case api.ErrGap:
			y, g := Farkas(p)
			if is, h := Refutes(p, y); g != api.OK || !is || h != api.OK {
				t.Errorf("Refutes(%v, %v) = %t, %d, %d", p, y, is, g, h)
			}
		}
	}
	if len(seen) != 4 {
		t.Error(seen)
	}
}

// grid returns all points whose numbers are halves from 0 to most.
func grid(variables, most int) [][]api.Frac {
	all := [][]api.Frac{nil}
	for range variables {
		var longer [][]api.Frac
		for _, x := range all {
			for n := range 2*most + 1 {
				a := f(n, 2)
				if n%2 == 0 {
					a = f(n/2, 1)
				}
				longer = append(longer, append(slices.Clone(x), a))
			}
		}
		all = longer
	}
	return all
}

func TestP5_6NoLesserPoint(t *testing.T) {
	feasible := 0
	for _, p := range few() {
		if len(p.Cost) > 3 {
			continue
		}
		a, e := Solve(p)
		for _, x := range grid(len(p.Cost), 6-len(p.Cost)) {
			is, _ := Feasible(p, x)
			if !is || e == api.ErrFree {
				continue
			}
			feasible++
			if v, g := Value(p, x); e != api.OK || g != api.OK || value(v).Cmp(value(a.Value)) < 0 {
				t.Errorf("%v has the least value %v, %d, but %v has the value %v, %d", p, a.Value, e, x, v, g)
			}
		}
	}
	if feasible < 1000 {
		t.Error(feasible)
	}
}

func TestP5_6Dual(t *testing.T) {
	seen := map[[2]api.Errno]int{}
	for _, p := range slices.Concat(few(), large(), steep(), hard()) {
		dual, e := Dual(p)
		if e != api.OK {
			continue
		}
		a, e := Solve(p)
		b, g := Solve(dual)
		seen[[2]api.Errno{e, g}]++
		right := false
		switch e {
		case api.OK:
			right = g == api.OK && a.Value.Num == -b.Value.Num && a.Value.Den == b.Value.Den
		case api.ErrFree:
			right = g == api.ErrGap
		case api.ErrGap:
			right = g == api.ErrGap || g == api.ErrFree
		}
		// Equations count twice in the dual, which may not fit then.
		if !right && g != api.ErrBig {
			t.Errorf("Solve(%v) = %v, %d; the dual has %v, %d", p, a.Value, e, b.Value, g)
		}
	}
	for _, pair := range [][2]api.Errno{{api.OK, api.OK}, {api.ErrFree, api.ErrGap}, {api.ErrGap, api.ErrFree}, {api.ErrGap, api.ErrGap}} {
		if seen[pair] < 20 {
			t.Error(seen)
		}
	}
}

func TestP5_6FurtherRow(t *testing.T) {
	higher := 0
	for _, p := range slices.Concat(few(), large(), steep(), hard()) {
		after, g := Solve(p)
		for i := range p.Rows {
			less := copied(p)
			less.Rows = slices.Delete(less.Rows, i, i+1)
			before, e := Solve(less)
			right := false
			switch e {
			case api.OK:
				right = g == api.ErrGap || g == api.OK && value(after.Value).Cmp(value(before.Value)) >= 0
			case api.ErrFree:
				right = true
			case api.ErrGap:
				right = g == api.ErrGap
			}
			if !right {
				t.Errorf("%v has the least value %v, %d; but %v without row %d", p, after.Value, g, before.Value, i)
			}
			if e == api.OK && g == api.OK && after.Value != before.Value {
				higher++
			}
		}
	}
	if higher < 500 {
		t.Error(higher)
	}
}

func TestP5_6Order(t *testing.T) {
	for _, p := range append(some(), hard()...) {
		a, e := Solve(p)
		for _, c := range turned(p) {
			if b, g := Solve(c); b.Value != a.Value || g != e {
				t.Errorf("%v has the least value %v, %d; but %v has %v, %d", p, a.Value, e, c, b.Value, g)
			}
		}
	}
}

func TestP1ArgumentsStay(t *testing.T) {
	for _, p := range some() {
		given := copied(p)
		a, _ := Solve(p)
		y, _ := Farkas(p)
		points := [][]api.Frac{zeros(len(p.Cost)), zeros(len(p.Rows))}
		Feasible(p, points[0])
		Value(p, points[0])
		Refutes(p, points[1])
		Check(p, api.Answer{Value: f(0, 1), X: points[0], Y: points[1]})
		dual, _ := Dual(p)
		if !reflect.DeepEqual(p, given) || !reflect.DeepEqual(points, [][]api.Frac{zeros(len(p.Cost)), zeros(len(p.Rows))}) {
			t.Errorf("%v became %v", given, p)
		}
		spoil(p.Cost)
		for i := range p.Rows {
			spoil(p.Rows[i].Coefs)
		}
		b, _ := Solve(given)
		z, _ := Farkas(given)
		other, _ := Dual(given)
		if !reflect.DeepEqual(a, b) || !slices.Equal(y, z) || !reflect.DeepEqual(dual, other) {
			t.Errorf("a result for %v shares memory with it", given)
		}
	}
}

func spoil(list []int) {
	for i := range list {
		list[i] = 77
	}
}

func TestP1ResultsApart(t *testing.T) {
	p := with([]int{2, 3}, row(api.Equal, 4, 1, 1), row(api.AtLeast, 6, 1, 3))
	dual, _ := Dual(p)
	want, _ := Dual(p)
	for i := range dual.Rows {
		dual.Rows[i].Coefs = append(dual.Rows[i].Coefs[:0], 7, 7, 7)
		_ = append(dual.Rows[i].Coefs, 8)
		for k := range dual.Rows {
			if k > i && !reflect.DeepEqual(dual.Rows[k], want.Rows[k]) || !slices.Equal(dual.Cost, want.Cost) {
				t.Errorf("row %d changes row %d, or the costs", i, k)
			}
		}
	}
	a, _ := Solve(p)
	want2 := slices.Clone(a.Y)
	a.X[0], a.X[1] = f(9, 1), f(9, 1)
	_ = append(a.X, f(9, 1))
	if !slices.Equal(a.Y, want2) {
		t.Errorf("the multipliers became %v", a.Y)
	}
}
