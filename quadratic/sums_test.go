package quadratic

import (
	"slices"
	"testing"

	"loftblock/api"
)

func TestP8_2Examples(t *testing.T) {
	// 10 until 1, then 10 + 2 u
	line := api.Curve{p(1, 10, 2, 0)}
	for _, c := range []struct {
		do   func(a, b api.Curve) (api.Curve, api.Errno)
		a, b api.Curve
		want api.Curve
	}{
		{Add, example(), line, api.Curve{p(0, 14, 0, -1), p(1, 13, 0, -1), p(3, 9, 3, 0)}},
		{Add, line, example(), api.Curve{p(0, 14, 0, -1), p(1, 13, 0, -1), p(3, 9, 3, 0)}},
		{Sub, line, example(), api.Curve{p(0, 6, 0, 1), p(1, 7, 4, 1), p(3, 19, 1, 0)}},
		{Sub, example(), line, api.Curve{p(0, -6, 0, -1), p(1, -7, -4, -1), p(3, -19, -1, 0)}},
		{Add, line, line, api.Curve{p(1, 20, 4, 0)}},
		{Sub, line, line, api.Curve{p(1, 0, 0, 0)}},
		{Add, example(), api.Curve{p(3, 1, 1, 1)}, api.Curve{p(0, 5, 0, -1), p(3, -4, 2, 1)}},
	} {
		if x, e := c.do(c.a, c.b); !slices.Equal(x, c.want) || e != api.OK {
			t.Errorf("%v and %v: %v, %d; want %v", c.a, c.b, x, e, c.want)
		}
	}
	if x, e := Shift(example(), f(-1, 2)); e != api.OK || !slices.Equal(x, api.Curve{{From: f(-1, 2), A: n(4), B: n(0), C: n(-1)}, {From: f(5, 2), A: n(-5), B: n(1), C: n(0)}}) {
		t.Errorf("Shift = %v, %d", x, e)
	}
}

func TestP8_2AddAndSub(t *testing.T) {
	found := map[api.Errno]int{}
	list := append(few(9), curves()[:3]...)
	for _, a := range list {
		for _, b := range list {
			want, g := joinedBy(a, b, (*meter).add)
			if x, e := Add(a, b); !slices.Equal(x, want) || e != g {
				t.Errorf("Add(%v, %v) = %v, %d; want %v, %d", a, b, x, e, want, g)
			}
			found[g]++
			want, g = joinedBy(a, b, (*meter).sub)
			if x, e := Sub(a, b); !slices.Equal(x, want) || e != g {
				t.Errorf("Sub(%v, %v) = %v, %d; want %v, %d", a, b, x, e, want, g)
			}
			found[g]++
		}
	}
	if found[api.OK] < 1000 || found[api.ErrBig] < 1000 {
		t.Errorf("too few results: %v", found)
	}
}

// steps returns a level curve with so many pieces, at every step-th second from a start.
func steps(pieces, start, step int) api.Curve {
	var c api.Curve
	for i := range pieces {
		c = append(c, p(start+i*step, i, 0, 0))
	}
	return c
}

func TestP8_2Full(t *testing.T) {
	for _, c := range []struct {
		a, b   api.Curve
		pieces int
		e      api.Errno
	}{
		{steps(100, 0, 2), steps(100, 1, 2), 200, api.OK},
		{steps(101, 0, 2), steps(100, 1, 2), 0, api.ErrFull},
		{steps(200, 0, 1), steps(200, 0, 1), 200, api.OK},
		{steps(200, 0, 1), steps(100, 50, 1), 200, api.OK},
		{steps(200, 0, 1), steps(1, 200, 1), 0, api.ErrFull},
		{steps(200, 0, 1), steps(1, -1, 1), 0, api.ErrFull},
		// too many pieces, and numbers that do not fit
		{append(steps(200, 0, 1)[:199], p(300, top, 0, 0)), api.Curve{p(299, 0, 0, 0), p(300, top, 0, 0)}, 0, api.ErrFull},
		{append(steps(200, 0, 1)[:199], p(300, top, 0, 0)), api.Curve{p(300, top, 0, 0)}, 0, api.ErrBig},
	} {
		for _, do := range []func(a, b api.Curve) (api.Curve, api.Errno){Add, func(a, b api.Curve) (api.Curve, api.Errno) { return Add(b, a) }} {
			if x, e := do(c.a, c.b); len(x) != c.pieces || e != c.e {
				t.Errorf("%v and %v: %d pieces, %d; want %d, %d", c.a, c.b, len(x), e, c.pieces, c.e)
			}
		}
		if c.e != api.ErrBig {
			if x, e := Sub(c.a, c.b); len(x) != c.pieces || e != c.e {
				t.Errorf("%v and %v: %d pieces, %d; want %d, %d", c.a, c.b, len(x), e, c.pieces, c.e)
			}
		}
	}
}

func TestP8_2Big(t *testing.T) {
	for _, c := range []struct {
		a, b     api.Curve
		add, sub api.Errno
	}{
		{api.Curve{p(0, top, 0, 0)}, api.Curve{p(0, 1, 0, 0)}, api.ErrBig, api.OK},
		{api.Curve{p(0, top, 0, 0)}, api.Curve{p(0, -1, 0, 0)}, api.OK, api.ErrBig},
		{api.Curve{p(0, 0, top, 0)}, api.Curve{p(0, 0, 1, 0)}, api.ErrBig, api.OK},
		{api.Curve{p(0, 0, 0, top)}, api.Curve{p(0, 0, 0, -1)}, api.OK, api.ErrBig},
		// at -1 the second one has its A, too; there is no C before its From
		{api.Curve{p(-1, top, 0, 0)}, api.Curve{p(0, 1, 0, 0)}, api.ErrBig, api.OK},
		{api.Curve{p(-1, 0, 0, top), p(0, 0, 0, 0)}, api.Curve{p(0, 0, 0, top)}, api.OK, api.OK},
		// the value, and 2 (C u), of the first one at 0
		{api.Curve{p(-1, top, 1, 0)}, api.Curve{p(0, 0, 0, 0)}, api.ErrBig, api.ErrBig},
		{api.Curve{p(-1, 0, -top, top)}, api.Curve{p(0, 0, 0, 0)}, api.ErrBig, api.ErrBig},
		// 0 - From of the first one
		{api.Curve{p(-top, 0, 0, 0)}, api.Curve{p(1, 0, 0, 0)}, api.ErrBig, api.ErrBig},
		{api.Curve{p(-top, 0, 0, 0)}, api.Curve{p(0, 0, 0, 0)}, api.OK, api.OK},
	} {
		x, e := Add(c.a, c.b)
		y, g := Sub(c.a, c.b)
		if e != c.add || g != c.sub || (x == nil) != (e != api.OK) || (y == nil) != (g != api.OK) {
			t.Errorf("%v and %v: %v, %d and %v, %d; want %d and %d", c.a, c.b, x, e, y, g, c.add, c.sub)
		}
	}
}

func TestP8_2Shift(t *testing.T) {
	found := map[api.Errno]int{}
	for _, c := range curves() {
		for _, by := range moments(c) {
			var m meter
			want, g := slices.Clone(c), api.OK
			for i, q := range c {
				want[i].From = frac(m.add(exact(q.From), exact(by)))
			}
			if m.big {
				want, g = nil, api.ErrBig
			}
			x, e := Shift(c, by)
			if !slices.Equal(x, want) || e != g {
				t.Errorf("Shift(%v, %v) = %v, %d; want %v, %d", c, by, x, e, want, g)
			}
			found[e]++
		}
	}
	if found[api.OK] < 1000 || found[api.ErrBig] < 1000 {
		t.Errorf("too few results: %v", found)
	}
}

func TestP8_2Errors(t *testing.T) {
	full := steps(200, 7, 3)
	for _, c := range wrong() {
		for _, other := range append(wrong(), example(), full) {
			for _, do := range []func(a, b api.Curve) (api.Curve, api.Errno){Add, Sub} {
				x, e := do(c, other)
				y, g := do(other, c)
				if x != nil || y != nil || e != api.ErrArg || g != api.ErrArg {
					t.Errorf("%v and %v: %v, %d; exchanged %v, %d; want ErrArg", c, other, x, e, y, g)
				}
			}
		}
		if x, e := Shift(c, n(0)); x != nil || e != api.ErrArg {
			t.Errorf("Shift(%v) = %v, %d; want ErrArg", c, x, e)
		}
	}
	for _, s := range strangers {
		if x, e := Shift(api.Curve{p(top, 0, 0, 0)}, s); x != nil || e != api.ErrArg {
			t.Errorf("Shift by %v = %v, %d; want ErrArg", s, x, e)
		}
	}
}

func TestP8_2ResultsAreNew(t *testing.T) {
	c := example()
	x, _ := Shift(c, n(0))
	y, _ := Add(c, api.Curve{p(0, 0, 0, 0)})
	x[0].A, y[0].A = n(99), n(98)
	if !slices.Equal(c, example()) {
		t.Errorf("the curve was changed to %v by its results", c)
	}
}
