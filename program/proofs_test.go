package program

import (
	"math/big"
	"reflect"
	"slices"
	"testing"

	"loftblock/api"
)

func TestP5_3Check(t *testing.T) {
	right := api.Answer{Value: f(-14, 5), X: []api.Frac{f(8, 5), f(6, 5)}, Y: []api.Frac{f(-2, 5), f(-1, 5)}}
	for i, c := range []struct {
		change func(a *api.Answer)
		ok     bool
		e      api.Errno
	}{
		{func(a *api.Answer) {}, true, api.OK},
		{func(a *api.Answer) { a.Value = f(-3, 1) }, false, api.OK},
		{func(a *api.Answer) { a.Value = f(-2, 1) }, false, api.OK},
		{func(a *api.Answer) { a.X = []api.Frac{f(2, 1), f(0, 1)} }, false, api.OK},
		{func(a *api.Answer) { a.X = []api.Frac{f(14, 5), f(0, 1)} }, false, api.OK},
		{func(a *api.Answer) { a.X, a.Value = []api.Frac{f(2, 1), f(0, 1)}, f(-2, 1) }, false, api.OK},
		{func(a *api.Answer) { a.X, a.Value = []api.Frac{f(0, 1), f(-1, 1)}, f(1, 1) }, false, api.OK},
		{func(a *api.Answer) { a.Y = []api.Frac{f(0, 1), f(-7, 15)} }, false, api.OK},
		{func(a *api.Answer) { a.Y = []api.Frac{f(2, 5), f(-1, 5)} }, false, api.OK},
		{func(a *api.Answer) { a.Y = []api.Frac{f(1, 5), f(-3, 5)} }, false, api.OK},
		{func(a *api.Answer) { a.Y = []api.Frac{f(-1, 1), f(-1, 1)} }, false, api.OK},
		{func(a *api.Answer) { a.Y = a.Y[1:] }, false, api.ErrSize},
		{func(a *api.Answer) { a.Y = append(a.Y, f(0, 1)) }, false, api.ErrSize},
		{func(a *api.Answer) { a.Y = nil }, false, api.ErrSize},
		{func(a *api.Answer) { a.X = a.X[1:] }, false, api.ErrSize},
		{func(a *api.Answer) { a.X = append(a.X, f(0, 1)) }, false, api.ErrSize},
		{func(a *api.Answer) { a.X = nil }, false, api.ErrSize},
		{func(a *api.Answer) { *a = api.Answer{} }, false, api.ErrArg},
		{func(a *api.Answer) { *a = api.Answer{Value: f(0, 1)} }, false, api.ErrSize},
		{func(a *api.Answer) { a.X = []api.Frac{f(top, 1)} }, false, api.ErrSize},
		{func(a *api.Answer) { a.X, a.Y = []api.Frac{f(top, 1), f(top, 1)}, nil }, false, api.ErrSize},
	} {
		a := right
		c.change(&a)
		if ok, e := Check(two(), a); ok != c.ok || e != c.e {
			t.Errorf("%d: Check of %v = %t, %d; want %t, %d", i, a, ok, e, c.ok, c.e)
		}
	}
	for _, n := range wrong {
		for _, a := range []api.Answer{
			{Value: n, X: right.X, Y: right.Y}, {Value: n}, {Value: f(1, 1), X: []api.Frac{n}}, {Value: f(1, 1), Y: []api.Frac{n}}, {Value: right.Value, X: right.X, Y: []api.Frac{n, f(1, 1)}},
			{Value: right.Value, X: right.X, Y: []api.Frac{f(1, 1), n}}, {Value: right.Value, X: []api.Frac{n, f(1, 1)}, Y: right.Y}, {Value: right.Value, X: []api.Frac{f(1, 1), n}, Y: right.Y},
			{Value: right.Value, X: []api.Frac{f(top, 1), f(top, 1)}, Y: []api.Frac{f(top, 1), n}},
		} {
			if ok, e := Check(two(), a); ok || e != api.ErrArg {
				t.Errorf("Check of %v = %t, %d", a, ok, e)
			}
		}
	}
}

func TestP5_3Kinds(t *testing.T) {
	for _, c := range []struct {
		kind, cost int
		y          api.Frac
		ok         bool
	}{
		{api.AtMost, -1, f(-1, 1), true}, {api.AtLeast, 1, f(1, 1), true}, {api.Equal, -1, f(-1, 1), true}, {api.Equal, 1, f(1, 1), true},
		{api.AtMost, 1, f(1, 1), false}, {api.AtLeast, -1, f(-1, 1), false}, {api.AtMost, 0, f(0, 1), true}, {api.AtLeast, 0, f(0, 1), true}, {api.Equal, 0, f(0, 1), true},
	} {
		p := with([]int{c.cost}, row(c.kind, 3, 1))
		a := api.Answer{Value: f(3*c.cost, 1), X: []api.Frac{f(3, 1)}, Y: []api.Frac{c.y}}
		if ok, e := Check(p, a); ok != c.ok || e != api.OK {
			t.Errorf("Check(%v, %v) = %t, %d; want %t", p, a, ok, e, c.ok)
		}
	}
	if ok, e := Check(with([]int{2, 0}), api.Answer{Value: f(0, 1), X: zeros(2)}); !ok || e != api.OK {
		t.Errorf("without rows: %t, %d", ok, e)
	}
	if ok, e := Check(with([]int{-2, 0}), api.Answer{Value: f(0, 1), X: zeros(2)}); ok || e != api.OK {
		t.Errorf("without rows: %t, %d", ok, e)
	}
}

func TestP5_3TooBig(t *testing.T) {
	for _, c := range tight {
		count := len(c.numbers)
		want := errnoOf(c.sum)
		unused := make([]int, count)
		inCost := with(c.numbers, row(api.AtLeast, 1, unused...))
		inRow := with(unused, row(api.AtLeast, 1, unused...), row(api.AtMost, 0, c.numbers...))
		inColumn, inRights := with([]int{0, 0}), with([]int{0, 0})
		for _, n := range c.numbers {
			inColumn.Rows = append(inColumn.Rows, row(api.Equal, 0, 0, n))
			inRights.Rows = append(inRights.Rows, row(api.Equal, n, 0, 0))
		}
		for _, a := range []struct {
			p api.Program
			a api.Answer
		}{
			{inCost, api.Answer{Value: f(0, 1), X: c.x, Y: zeros(1)}},
			{inRow, api.Answer{Value: f(0, 1), X: c.x, Y: zeros(2)}},
			{inColumn, api.Answer{Value: f(0, 1), X: []api.Frac{f(-1, 1), f(1, 1)}, Y: c.x}},
			{inRights, api.Answer{Value: f(5, 7), X: zeros(2), Y: c.x}},
		} {
			if ok, e := Check(a.p, a.a); ok && e != api.OK || e != want {
				t.Errorf("Check(%v, %v) = %t, %d; want %d", a.p, a.a, ok, e, want)
			}
		}
		if is, e := Refutes(inColumn, c.x); is || e != want {
			t.Errorf("Refutes(%v, %v) = %t, %d; want %d", inColumn, c.x, is, e, want)
		}
		if is, e := Refutes(inRights, c.x); is != (c.sum.Num > 0) || e != want {
			t.Errorf("Refutes(%v, %v) = %t, %d; want %d", inRights, c.x, is, e, want)
		}
	}
}

// changes returns an answer, and others that differ from it by one number.
func changes(a api.Answer) []api.Answer {
	other := func(b api.Frac, by *big.Rat) api.Frac {
		r := value(b)
		if r.Add(r, by); !inBounds(r) {
			return b
		}
		return f(int(r.Num().Int64()), int(r.Denom().Int64()))
	}
	list := []api.Answer{a}
	for _, by := range []*big.Rat{big.NewRat(1, 1), big.NewRat(-1, 1), big.NewRat(1, 1<<40), big.NewRat(-1, 3), big.NewRat(1<<58, 7)} {
		list = append(list, api.Answer{Value: other(a.Value, by), X: a.X, Y: a.Y})
		for i := range a.X {
			x := slices.Clone(a.X)
			x[i] = other(x[i], by)
			list = append(list, api.Answer{Value: a.Value, X: x, Y: a.Y})
		}
		for i := range a.Y {
			y := slices.Clone(a.Y)
			y[i] = other(y[i], by)
			list = append(list, api.Answer{Value: a.Value, X: a.X, Y: y})
		}
	}
	return list
}

// some returns programs of all kinds.
func some() []api.Program {
	all := slices.Concat(few(), large(), steep(), hard())
	var list []api.Program
	for i, p := range all {
		if i%8 == 0 || i > len(all)-100 {
			list = append(list, p)
		}
	}
	return list
}

func TestP5_3OfAll(t *testing.T) {
	seen := map[[2]bool]int{}
	for _, p := range some() {
		first, e := Solve(p)
		if e != api.OK {
			continue
		}
		for _, a := range changes(first) {
			want, fit := proved(p, a)
			seen[[2]bool{want, fit}]++
			if ok, e := Check(p, a); ok != (want && fit) || (e == api.OK) != fit || (e == api.ErrBig) == fit {
				t.Errorf("Check(%v, %v) = %t, %d; want %t, %t", p, a, ok, e, want, fit)
			}
		}
	}
	if seen[[2]bool{true, true}] < 500 || seen[[2]bool{false, true}] < 1000 || seen[[2]bool{false, false}] < 100 {
		t.Error(seen)
	}
}

func TestP5_4Farkas(t *testing.T) {
	for _, c := range []struct {
		p api.Program
		y []api.Frac
		e api.Errno
	}{
		{none(), []api.Frac{f(1, 1), f(-1, 1)}, api.OK},
		{two(), nil, api.ErrNone},
		{with([]int{-3}), nil, api.ErrNone},
		{with([]int{-3}, row(api.AtMost, 0, 1)), nil, api.ErrNone},
		{with([]int{3}, row(api.AtMost, -1, 1)), []api.Frac{f(-1, 1)}, api.OK},
		{with([]int{3}, row(api.Equal, 1, 0)), []api.Frac{f(1, 1)}, api.OK},
		{with([]int{3}, row(api.Equal, -1, 0)), []api.Frac{f(-1, 1)}, api.OK},
		{with([]int{3}, row(api.AtLeast, 7, -1)), []api.Frac{f(1, 1)}, api.OK},
		{with([]int{3}, row(api.AtMost, 379625062-3, 1)), nil, api.ErrBig},
		{with([]int{0}, row(api.AtMost, -379625062+2, 1)), []api.Frac{f(-1, 1)}, api.OK},
		{with([]int{0}, row(api.AtMost, -379625062+1, 1)), nil, api.ErrBig},
	} {
		y, e := Farkas(c.p)
		if e != c.e || len(y) != len(c.y) {
			t.Errorf("Farkas(%v) = %v, %d; want %v, %d", c.p, y, e, c.y, c.e)
			continue
		}
		// All multiples of the multipliers refute the program as well.
		for i := range y {
			if x, r := new(big.Rat).Mul(value(y[i]), value(c.y[0])), new(big.Rat).Mul(value(c.y[i]), value(y[0])); x.Cmp(r) != 0 {
				t.Errorf("Farkas(%v) = %v; want multiples of %v", c.p, y, c.y)
			}
		}
	}
}

func TestP5_4Refutes(t *testing.T) {
	kinds := func(kind int, right int) api.Program { return with([]int{0}, row(kind, right, 0)) }
	for _, c := range []struct {
		p  api.Program
		y  []api.Frac
		is bool
		e  api.Errno
	}{
		{none(), []api.Frac{f(1, 1), f(-1, 1)}, true, api.OK},
		{none(), []api.Frac{f(1, 7), f(-1, 7)}, true, api.OK},
		{none(), []api.Frac{f(1, 1), f(-4, 3)}, true, api.OK},
		{none(), []api.Frac{f(1, 1), f(-3, 2)}, false, api.OK},
		{none(), []api.Frac{f(2, 3), f(-1, 1)}, false, api.OK},
		{none(), []api.Frac{f(1, 1), f(-1, 2)}, false, api.OK},
		{none(), zeros(2), false, api.OK},
		{none(), []api.Frac{f(-1, 1), f(-1, 1)}, false, api.OK},
		{none(), []api.Frac{f(1, 1), f(1, 1)}, false, api.OK},
		{with([]int{-5}, row(api.AtLeast, 3, 1), row(api.AtMost, 2, 1)), []api.Frac{f(1, 1), f(-1, 1)}, true, api.OK},
		{kinds(api.AtMost, -2), []api.Frac{f(-1, 1)}, true, api.OK}, {kinds(api.AtMost, 2), []api.Frac{f(1, 1)}, false, api.OK},
		{kinds(api.AtLeast, 2), []api.Frac{f(1, 1)}, true, api.OK}, {kinds(api.AtLeast, -2), []api.Frac{f(-1, 1)}, false, api.OK},
		{kinds(api.Equal, 2), []api.Frac{f(1, 1)}, true, api.OK}, {kinds(api.Equal, -2), []api.Frac{f(-1, 1)}, true, api.OK}, {kinds(api.Equal, -2), []api.Frac{f(1, 1)}, false, api.OK},
		{with([]int{1}), nil, false, api.OK}, {with([]int{-1}), []api.Frac{}, false, api.OK},
		{none(), []api.Frac{f(1, 1)}, false, api.ErrSize}, {none(), nil, false, api.ErrSize}, {none(), zeros(3), false, api.ErrSize}, {with([]int{1}), zeros(1), false, api.ErrSize},
		{none(), []api.Frac{f(top, 1)}, false, api.ErrSize},
		{none(), []api.Frac{f(top, 1), f(-1, 1)}, false, api.ErrBig}, {none(), []api.Frac{f(-top, 1), f(top, 1)}, false, api.ErrBig},
	} {
		if is, e := Refutes(c.p, c.y); is != c.is || e != c.e {
			t.Errorf("Refutes(%v, %v) = %t, %d; want %t, %d", c.p, c.y, is, e, c.is, c.e)
		}
	}
	for _, a := range wrong {
		for _, y := range [][]api.Frac{{a}, {a, f(1, 1)}, {f(1, 1), a}, {f(top, 1), a}, {f(1, 1), f(1, 1), a}} {
			if is, e := Refutes(none(), y); is || e != api.ErrArg {
				t.Errorf("Refutes of %v = %t, %d", y, is, e)
			}
		}
	}
}

func TestP5_4OfAll(t *testing.T) {
	seen := map[[2]bool]int{}
	for _, p := range some() {
		first, e := Farkas(p)
		if e != api.OK {
			first = zeros(len(p.Rows))
		}
		for _, a := range changes(api.Answer{Y: first, Value: f(0, 1)}) {
			want, fit := refuted(p, a.Y)
			seen[[2]bool{want, fit}]++
			if is, e := Refutes(p, a.Y); is != (want && fit) || (e == api.OK) != fit || (e == api.ErrBig) == fit {
				t.Errorf("Refutes(%v, %v) = %t, %d; want %t, %t", p, a.Y, is, e, want, fit)
			}
		}
	}
	if seen[[2]bool{true, true}] < 100 || seen[[2]bool{false, true}] < 1000 || seen[[2]bool{false, false}] < 50 {
		t.Error(seen)
	}
}

func TestP5_5Dual(t *testing.T) {
	for _, c := range []struct {
		p, dual api.Program
		e       api.Errno
	}{
		{
			with([]int{2, 3}, row(api.AtLeast, 4, 1, 1), row(api.AtMost, 6, 1, 3), row(api.Equal, 5, 7, 8)),
			with([]int{-4, 6, -5, 5}, row(api.AtMost, 2, 1, -1, 7, -7), row(api.AtMost, 3, 1, -3, 8, -8)), api.OK,
		},
		{two(), with([]int{4, 6}, row(api.AtMost, -1, -1, -3), row(api.AtMost, -1, -2, -1)), api.OK},
		{with([]int{0}, row(api.AtLeast, 0, 0)), with([]int{0}, row(api.AtMost, 0, 0)), api.OK},
		{with([]int{5}, row(api.AtMost, -1<<20, -1<<20)), with([]int{-1 << 20}, row(api.AtMost, 5, 1<<20)), api.OK},
		{with([]int{-1 << 20}, row(api.AtLeast, 1<<20, 1)), with([]int{-1 << 20}, row(api.AtMost, -1<<20, 1)), api.OK},
		{with([]int{1}), api.Program{}, api.ErrEmpty}, {filled(12, 0, 1, 0, 0, 0), api.Program{}, api.ErrEmpty}, {filled(7, 0, 1, 0, 0, 0), api.Program{}, api.ErrEmpty},
		{filled(7, 1, 1, 1, 1, 1), api.Program{}, api.ErrFull}, {filled(12, 6, 1, 1, 3, 1<<30), api.Program{}, api.ErrFull},
		{with([]int{1}, row(api.AtMost, 1<<20+1, 1)), api.Program{}, api.ErrBig}, {with([]int{1}, row(api.AtLeast, -1<<20-1, 1)), api.Program{}, api.ErrBig},
		{with([]int{1}, row(api.Equal, 5, 1), row(api.Equal, 1<<30, 1)), api.Program{}, api.ErrBig}, {with([]int{1}, row(api.Equal, -1<<30, 1), row(api.Equal, 1, 1)), api.Program{}, api.ErrBig},
	} {
		if dual, e := Dual(c.p); !reflect.DeepEqual(dual, c.dual) || e != c.e {
			t.Errorf("Dual(%v) = %v, %d; want %v, %d", c.p, dual, e, c.dual, c.e)
		}
	}
}

// dualOf returns the dual of a program: each column of it stands for a multiplier.
func dualOf(p api.Program) api.Program {
	d := with(nil)
	for _, cost := range p.Cost {
		d.Rows = append(d.Rows, row(api.AtMost, cost))
	}
	add := func(r api.Row, sign int) {
		d.Cost = append(d.Cost, -sign*r.Right)
		for j, n := range r.Coefs {
			d.Rows[j].Coefs = append(d.Rows[j].Coefs, sign*n)
		}
	}
	for _, r := range p.Rows {
		switch r.Kind {
		case api.AtLeast:
			add(r, 1)
		case api.AtMost:
			add(r, -1)
		case api.Equal:
			add(r, 1)
			add(r, -1)
		}
	}
	return d
}

func TestP5_5OfAll(t *testing.T) {
	widest := 0
	for _, p := range slices.Concat(few(), large(), steep(), hard(), []api.Program{filled(6, 6, 1, -1, api.Equal, 1<<20)}) {
		dual, e := Dual(p)
		switch {
		case len(p.Rows) == 0:
			if e != api.ErrEmpty {
				t.Errorf("Dual(%v) = %v, %d", p, dual, e)
			}
		case len(p.Cost) > 6:
			if e != api.ErrFull {
				t.Errorf("Dual(%v) = %v, %d", p, dual, e)
			}
		case slices.ContainsFunc(p.Rows, func(r api.Row) bool { return max(r.Right, -r.Right) > 1<<20 }):
			if e != api.ErrBig {
				t.Errorf("Dual(%v) = %v, %d", p, dual, e)
			}
		case e != api.OK || !reflect.DeepEqual(dual, dualOf(p)) || !Valid(dual):
			t.Errorf("Dual(%v) = %v, %d; want %v", p, dual, e, dualOf(p))
		}
		widest = max(widest, len(dual.Cost))
	}
	if widest != 12 {
		t.Error(widest)
	}
}
