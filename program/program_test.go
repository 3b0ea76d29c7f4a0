package program

import (
	"math"
	"reflect"
	"slices"
	"testing"

	"loftblock/api"
)

// two is the program of the chapter.
func two() api.Program {
	return with([]int{-1, -1}, row(api.AtMost, 4, 1, 2), row(api.AtMost, 6, 3, 1))
}

// none is the program of the chapter that is refuted.
func none() api.Program {
	return with([]int{0}, row(api.AtLeast, 3, 1), row(api.AtMost, 2, 1))
}

// strangers are no programs.
func strangers() []api.Program {
	list := []api.Program{
		{}, with(nil, row(api.AtMost, 1)), with([]int{}, row(api.AtMost, 1)), filled(13, 0, 0, 0, 1, 0), filled(13, 1, 1, 1, 1, 1), filled(1000, 2, 1, 1, 1, 1),
		filled(1, 7, 0, 0, 1, 0), filled(12, 7, 1, 1, 1, 1), filled(1, 1000, 1, 1, 1, 1),
		with([]int{1}, row(api.AtMost, 1)), with([]int{1}, row(api.AtMost, 1, 1, 1)), with([]int{1, 1}, row(api.AtMost, 1, 1)), with([]int{1, 1}, row(api.AtMost, 1, 1, 1), row(api.AtMost, 1, 1)), with([]int{1, 1}, row(api.AtMost, 1, 1, 1), row(api.AtMost, 1, 1, 1, 1)),
	}
	for _, kind := range []int{0, -1, 4, 5, 1000, math.MaxInt, math.MinInt} {
		list = append(list, with([]int{1}, row(kind, 1, 1)), with([]int{1}, row(api.Equal, 1, 1), row(kind, 1, 1)))
	}
	for _, n := range []int{1<<20 + 1, 1 << 21, 1 << 32, 1 << 60, math.MaxInt, math.MaxInt - 1} {
		for _, n := range []int{n, -n} {
			list = append(list, with([]int{n}), with([]int{1, n}), with([]int{n, 1}), with([]int{1}, row(api.AtMost, 1, n)), with([]int{1, 1}, row(api.AtMost, 1, 1, 1), row(api.AtMost, 1, 1, n)))
		}
	}
	for _, n := range []int{1<<30 + 1, 1 << 31, 1 << 60, math.MaxInt, math.MaxInt - 1} {
		for _, n := range []int{n, -n} {
			list = append(list, with([]int{1}, row(api.AtMost, n, 1)), with([]int{1}, row(api.Equal, 1, 1), row(api.AtLeast, n, 1)))
		}
	}
	return append(list, with([]int{math.MinInt}), with([]int{1}, row(api.AtMost, 1, math.MinInt)), with([]int{1}, row(api.AtMost, math.MinInt, 1)))
}

// wrong are no fractions.
var wrong = []api.Frac{{}, f(1, 0), f(-1, 0), f(1, -1), f(0, 2), f(0, -1), f(2, 2), f(2, 4), f(-3, 6), f(1, top+1), f(top+1, 1), f(-top-1, 1), f(math.MinInt, 1), f(1, math.MinInt), f(math.MinInt, math.MinInt), f(math.MaxInt, 1), f(1, math.MaxInt)}

func zeros(n int) []api.Frac { return slices.Repeat([]api.Frac{f(0, 1)}, n) }

func TestP5_1Valid(t *testing.T) {
	for variables := range 15 {
		for rows := range 9 {
			want := variables >= 1 && variables <= 12 && rows <= 6
			for kind := api.AtMost; kind <= api.Equal; kind++ {
				for _, n := range []int{0, 1, -1, 1 << 20, -1 << 20} {
					if p := filled(variables, rows, n, n, kind, n<<10); Valid(p) != want {
						t.Errorf("Valid(%v) is not %t", p, want)
					}
				}
			}
		}
	}
	for _, p := range strangers() {
		if Valid(p) {
			t.Errorf("Valid(%v) is true", p)
		}
	}
}

func TestP5_1NoProgram(t *testing.T) {
	for _, p := range strangers() {
		for _, x := range [][]api.Frac{nil, zeros(1), zeros(2), zeros(13), {{}}} {
			if is, e := Feasible(p, x); is || e != api.ErrArg {
				t.Errorf("Feasible(%v, %v) = %t, %d", p, x, is, e)
			}
			if v, e := Value(p, x); v != (api.Frac{}) || e != api.ErrArg {
				t.Errorf("Value(%v, %v) = %v, %d", p, x, v, e)
			}
			if is, e := Check(p, api.Answer{Value: f(0, 1), X: x, Y: zeros(len(p.Rows))}); is || e != api.ErrArg {
				t.Errorf("Check(%v, %v) = %t, %d", p, x, is, e)
			}
			if is, e := Refutes(p, x); is || e != api.ErrArg {
				t.Errorf("Refutes(%v, %v) = %t, %d", p, x, is, e)
			}
		}
		if a, e := Solve(p); !reflect.DeepEqual(a, api.Answer{}) || e != api.ErrArg {
			t.Errorf("Solve(%v) = %v, %d", p, a, e)
		}
		if y, e := Farkas(p); y != nil || e != api.ErrArg {
			t.Errorf("Farkas(%v) = %v, %d", p, y, e)
		}
		if d, e := Dual(p); !reflect.DeepEqual(d, api.Program{}) || e != api.ErrArg {
			t.Errorf("Dual(%v) = %v, %d", p, d, e)
		}
	}
}

func TestP5_1Points(t *testing.T) {
	line := func(kind int) api.Program { return with([]int{5, -7}, row(kind, 3, 2, 3)) }
	for _, c := range []struct {
		p  api.Program
		x  []api.Frac
		is bool
		v  api.Frac
		e  api.Errno
	}{
		{two(), []api.Frac{f(8, 5), f(6, 5)}, true, f(-14, 5), api.OK},
		{two(), []api.Frac{f(2, 1), f(0, 1)}, true, f(-2, 1), api.OK},
		{two(), []api.Frac{f(2, 1), f(1, 7)}, false, f(-15, 7), api.OK},
		{two(), []api.Frac{f(0, 1), f(5, 2)}, false, f(-5, 2), api.OK},
		{two(), []api.Frac{f(-1, 9), f(0, 1)}, false, f(1, 9), api.OK},
		{two(), []api.Frac{f(0, 1), f(-1, top)}, false, f(1, top), api.OK},
		{line(api.AtMost), []api.Frac{f(1, 2), f(2, 3)}, true, f(-13, 6), api.OK},
		{line(api.AtLeast), []api.Frac{f(1, 2), f(2, 3)}, true, f(-13, 6), api.OK},
		{line(api.Equal), []api.Frac{f(1, 2), f(2, 3)}, true, f(-13, 6), api.OK},
		{line(api.AtMost), []api.Frac{f(1, 2), f(3, 5)}, true, f(-17, 10), api.OK},
		{line(api.AtLeast), []api.Frac{f(1, 2), f(3, 5)}, false, f(-17, 10), api.OK},
		{line(api.Equal), []api.Frac{f(1, 2), f(3, 5)}, false, f(-17, 10), api.OK},
		{line(api.AtMost), []api.Frac{f(1, 2), f(3, 4)}, false, f(-11, 4), api.OK},
		{line(api.AtLeast), []api.Frac{f(1, 2), f(3, 4)}, true, f(-11, 4), api.OK},
		{line(api.Equal), []api.Frac{f(1, 2), f(3, 4)}, false, f(-11, 4), api.OK},
		{line(api.Equal), []api.Frac{f(3, 2), f(0, 1)}, true, f(15, 2), api.OK},
		{line(api.Equal), []api.Frac{f(3, 1), f(-1, 1)}, false, f(22, 1), api.OK},
		{with([]int{1 << 20}), []api.Frac{f(1<<40, 1)}, true, f(top, 1), api.OK},
		{with([]int{0}), []api.Frac{f(top, 1)}, true, f(0, 1), api.OK},
		{with([]int{0}), []api.Frac{f(-1, top)}, false, f(0, 1), api.OK},
		{two(), nil, false, api.Frac{}, api.ErrSize},
		{two(), zeros(1), false, api.Frac{}, api.ErrSize},
		{two(), zeros(3), false, api.Frac{}, api.ErrSize},
		{with([]int{1}), nil, false, api.Frac{}, api.ErrSize},
		{with([]int{1}), zeros(1000), false, api.Frac{}, api.ErrSize},
	} {
		if is, e := Feasible(c.p, c.x); is != c.is || e != c.e {
			t.Errorf("Feasible(%v, %v) = %t, %d; want %t, %d", c.p, c.x, is, e, c.is, c.e)
		}
		if v, e := Value(c.p, c.x); v != c.v || e != c.e {
			t.Errorf("Value(%v, %v) = %v, %d; want %v, %d", c.p, c.x, v, e, c.v, c.e)
		}
	}
}

func TestP5_1NoFractions(t *testing.T) {
	for _, a := range wrong {
		for _, x := range [][]api.Frac{{a}, {a, f(1, 1)}, {f(1, 1), a}, {f(1, 1), f(1, 1), a}, {f(top, 1), a}} {
			if is, e := Feasible(two(), x); is || e != api.ErrArg {
				t.Errorf("Feasible of %v = %t, %d", x, is, e)
			}
			if v, e := Value(two(), x); v != (api.Frac{}) || e != api.ErrArg {
				t.Errorf("Value of %v = %v, %d", x, v, e)
			}
		}
	}
}

// tight are numbers and fractions, and the sum of their products, or zero if a result on the way does not fit.
var tight = []struct {
	numbers []int
	x       []api.Frac
	sum     api.Frac
}{
	{[]int{1 << 20}, []api.Frac{f(1<<40, 1)}, f(top, 1)},
	{[]int{1 << 20}, []api.Frac{f(1<<40+1, 1)}, api.Frac{}},
	{[]int{-1 << 20}, []api.Frac{f(1<<40, 1)}, f(-top, 1)},
	{[]int{-1 << 20}, []api.Frac{f(1<<40+1, 1)}, api.Frac{}},
	{[]int{1 << 20}, []api.Frac{f(1, top)}, f(1, 1<<40)},
	{[]int{2, 2}, []api.Frac{f(1<<59, 3), f(0, 1)}, f(top, 3)},
	{[]int{2, 2}, []api.Frac{f(1<<59+2, 3), f(0, 1)}, api.Frac{}},
	{[]int{3, 2}, []api.Frac{f(1<<59+2, 3), f(0, 1)}, f(1<<59+2, 1)},
	{[]int{1, 1}, []api.Frac{f(top, 1), f(0, 1)}, f(top, 1)},
	{[]int{1, 1}, []api.Frac{f(top, 1), f(1, 1)}, api.Frac{}},
	{[]int{1, -1}, []api.Frac{f(top, 1), f(1, 1)}, f(top-1, 1)},
	{[]int{1, -1, 1}, []api.Frac{f(top, 1), f(1, 1), f(1, 1)}, f(top, 1)},
	{[]int{1, 1, -1}, []api.Frac{f(top, 1), f(1, 1), f(1, 1)}, api.Frac{}},
	{[]int{-1, -1, 1}, []api.Frac{f(top, 1), f(1, 1), f(1, 1)}, api.Frac{}},
	{[]int{1, 1}, []api.Frac{f(1, top), f(1, 3)}, api.Frac{}},
	{[]int{0, 1}, []api.Frac{f(1, top), f(1, 3)}, f(1, 3)},
	{[]int{1, 3}, []api.Frac{f(1, top), f(1, 3)}, api.Frac{}},
	{[]int{1 << 20, 3}, []api.Frac{f(1, top), f(1, 3)}, f(1<<40+1, 1<<40)},
	{[]int{1, -1}, []api.Frac{f(1, top), f(1, top)}, f(0, 1)},
	{[]int{1, 1, -1}, []api.Frac{f(1, top), f(1, 3), f(1, 3)}, api.Frac{}},
}

func errnoOf(sum api.Frac) api.Errno {
	if sum == (api.Frac{}) {
		return api.ErrBig
	}
	return api.OK
}

func TestP5_1TooBig(t *testing.T) {
	for _, c := range tight {
		if v, e := Value(with(c.numbers), c.x); v != c.sum || e != errnoOf(c.sum) {
			t.Errorf("Value of %v, %v = %v, %d; want %v", c.numbers, c.x, v, e, c.sum)
		}
		unused := make([]int, len(c.numbers))
		first := with(unused, row(api.AtLeast, -1<<30, c.numbers...))
		later := with(unused, row(api.AtLeast, 1, unused...), row(api.AtLeast, 0, unused...), row(api.AtMost, 0, c.numbers...))
		negative := with(append(unused, 0), row(api.AtLeast, 0, append(slices.Clone(c.numbers), 0)...))
		if is, e := Feasible(first, c.x); is != (c.sum.Num > -1<<30 && c.sum.Den > 0) || e != errnoOf(c.sum) {
			t.Errorf("Feasible(%v, %v) = %t, %d", first, c.x, is, e)
		}
		if is, e := Feasible(later, c.x); is || e != errnoOf(c.sum) {
			t.Errorf("Feasible(%v, %v) = %t, %d", later, c.x, is, e)
		}
		if x := append(slices.Clone(c.x), f(-1, 1)); true {
			if is, e := Feasible(negative, x); is || e != errnoOf(c.sum) {
				t.Errorf("Feasible(%v, %v) = %t, %d", negative, x, is, e)
			}
		}
	}
}

// points returns lists of fractions: small ones, and such whose sums nearly fit.
func points(next func(low, high int) int, length int) [][]api.Frac {
	all := make([][]api.Frac, 5)
	for range length {
		for k, pair := range [][2]int{{next(0, 4), next(1, 3)}, {next(-4, 4), 1}, {next(1<<28, 1<<29) << 30, next(1, 3)}, {next(0, 9), next(1<<29, 1<<30)}, {next(0, 3), next(1, 2) * (top / 2)}} {
			r := value(f(pair[0], pair[1]))
			all[k] = append(all[k], f(int(r.Num().Int64()), int(r.Denom().Int64())))
		}
	}
	return all
}

func TestP5_1OfAll(t *testing.T) {
	next := numbers()
	seen := map[[2]bool]int{}
	for _, p := range append(few(), large()...) {
		for _, x := range points(next, len(p.Cost)) {
			want, fit := holds(p, x)
			seen[[2]bool{want, fit}]++
			if is, e := Feasible(p, x); is != (want && fit) || (e == api.OK) != fit || (e == api.ErrBig) == fit {
				t.Errorf("Feasible(%v, %v) = %t, %d; want %t, %t", p, x, is, e, want, fit)
			}
			sum, fit := added(p.Cost, x)
			v, e := Value(p, x)
			if fit && (e != api.OK || !isFraction(v) || value(v).Cmp(sum) != 0) || !fit && (e != api.ErrBig || v != (api.Frac{})) {
				t.Errorf("Value(%v, %v) = %v, %d; want %v, %t", p, x, v, e, sum, fit)
			}
		}
	}
	if len(seen) != 4 {
		t.Error(seen)
	}
}
