package quadratic

import (
	"slices"
	"testing"

	"loftblock/api"
)

func TestP8_1Valid(t *testing.T) {
	for _, c := range curves() {
		if !Valid(c) {
			t.Errorf("Valid(%v) is false", c)
		}
	}
	for _, c := range wrong() {
		if Valid(c) {
			t.Errorf("Valid(%v) is true", c)
		}
	}
	extreme := api.Curve{{From: n(-top), A: f(-top, top-1), B: f(1, top), C: n(top)}, {From: f(top-1, top), A: n(0), B: n(0), C: n(0)}, p(top, 0, 0, 0)}
	if !Valid(extreme) {
		t.Errorf("Valid(%v) is false", extreme)
	}
}

func TestP8_1Example(t *testing.T) {
	for _, c := range []struct{ t, value, slope api.Frac }{
		{n(-1), n(4), n(0)}, {n(-top), n(4), n(0)}, {f(-1, top), n(4), n(0)}, {n(0), n(4), n(0)}, {n(1), n(3), n(-2)}, {n(2), n(0), n(-4)},
		{f(5, 2), f(-9, 4), n(-5)}, {n(3), n(-5), n(1)}, {n(7), n(-1), n(1)}, {n(1 << 59), n(1<<59 - 8), n(1)},
	} {
		if x, e := At(example(), c.t); x != c.value || e != api.OK {
			t.Errorf("At(%v) = %v, %d; want %v", c.t, x, e, c.value)
		}
		if x, e := Slope(example(), c.t); x != c.slope || e != api.OK {
			t.Errorf("Slope(%v) = %v, %d; want %v", c.t, x, e, c.slope)
		}
	}
}

func TestP8_1AtAndSlope(t *testing.T) {
	found := map[api.Errno]int{}
	for _, c := range curves() {
		for _, at := range moments(c) {
			var m, o meter
			want, g := m.result(m.valueOf(c, at))
			if x, e := At(c, at); x != want || e != g {
				t.Errorf("At(%v, %v) = %v, %d; want %v, %d", c, at, x, e, want, g)
			}
			found[g]++
			want, g = o.result(o.slopeOf(c, at))
			if x, e := Slope(c, at); x != want || e != g {
				t.Errorf("Slope(%v, %v) = %v, %d; want %v, %d", c, at, x, e, want, g)
			}
			found[g]++
		}
	}
	if found[api.OK] < 1000 || found[api.ErrBig] < 1000 {
		t.Errorf("too few results: %v", found)
	}
}

// An operation on the way may not fit, even if the result would.
func TestP8_1Big(t *testing.T) {
	for _, c := range []struct {
		c            api.Curve
		t            api.Frac
		value, slope api.Errno
	}{
		// t - From
		{api.Curve{p(-1, 0, 0, 0)}, n(top), api.ErrBig, api.ErrBig},
		{api.Curve{p(0, 0, 0, 0)}, n(top), api.OK, api.OK},
		{api.Curve{{From: f(1, 1<<30), A: n(0), B: n(0), C: n(0)}}, f(1, 1<<30-1), api.OK, api.OK},
		{api.Curve{{From: f(1, 1<<31), A: n(0), B: n(0), C: n(0)}}, f(1, 1<<31-1), api.ErrBig, api.ErrBig},
		// before the first piece there is no operation
		{api.Curve{p(top, top, top, top)}, n(-top), api.OK, api.OK},
		// C u, and 2 (C u)
		{api.Curve{p(0, 0, 0, 1)}, n(1 << 30), api.OK, api.OK},
		{api.Curve{p(0, 0, 0, 1)}, n(1<<30 + 1), api.ErrBig, api.OK},
		{api.Curve{p(0, 0, -top, top)}, n(1), api.OK, api.ErrBig},
		{api.Curve{p(0, 0, -1<<59, 1<<59)}, n(1), api.OK, api.OK},
		{api.Curve{p(0, 0, -top, 1<<59)}, n(2), api.OK, api.ErrBig},
		{api.Curve{p(0, 0, -top, 1<<59+1)}, n(2), api.ErrBig, api.ErrBig},
		// B + (C u)
		{api.Curve{p(0, 0, top, 1)}, n(1), api.ErrBig, api.ErrBig},
		{api.Curve{p(0, 0, top-1, 1)}, n(1), api.OK, api.ErrBig},
		{api.Curve{p(0, 0, top-2, 1)}, n(1), api.OK, api.OK},
		// times u, and A + it
		{api.Curve{p(0, -1, top/2, 0)}, n(2), api.OK, api.OK},
		{api.Curve{p(0, -5, top/2+1, 0)}, n(2), api.ErrBig, api.OK},
		{api.Curve{p(0, 1, top/2, 0)}, n(2), api.ErrBig, api.OK},
		{api.Curve{p(0, -top, top, 0)}, n(1), api.OK, api.OK},
	} {
		x, e := At(c.c, c.t)
		y, g := Slope(c.c, c.t)
		if e != c.value || g != c.slope || e != api.OK && x != (api.Frac{}) || g != api.OK && y != (api.Frac{}) {
			t.Errorf("%v at %v: %v, %d and %v, %d; want %d and %d", c.c, c.t, x, e, y, g, c.value, c.slope)
		}
	}
}

func TestP8_1Errors(t *testing.T) {
	for _, c := range wrong() {
		x, e := At(c, n(0))
		y, g := Slope(c, n(0))
		is, h := Smooth(c)
		if e != api.ErrArg || g != api.ErrArg || h != api.ErrArg || x != (api.Frac{}) || y != (api.Frac{}) || is {
			t.Errorf("%v: %v, %d; %v, %d; %t, %d; want ErrArg", c, x, e, y, g, is, h)
		}
	}
	for _, s := range strangers {
		x, e := At(example(), s)
		y, g := Slope(example(), s)
		if e != api.ErrArg || g != api.ErrArg || x != (api.Frac{}) || y != (api.Frac{}) {
			t.Errorf("at %v: %v, %d; %v, %d; want ErrArg", s, x, e, y, g)
		}
	}
}

func TestP8_1Smooth(t *testing.T) {
	for _, c := range []struct {
		c  api.Curve
		is bool
		e  api.Errno
	}{
		{example(), false, api.OK},
		{api.Curve{p(0, 4, 0, -1), p(3, -5, -6, 0)}, true, api.OK},
		{api.Curve{p(0, 4, 0, -1), p(3, -5, -5, 0)}, false, api.OK},
		{api.Curve{p(0, 4, 0, -1), p(3, -4, -6, 0)}, false, api.OK},
		{api.Curve{p(0, 4, 0, -1), p(3, -5, -6, 0), p(4, -11, -6, 9), p(5, -8, 12, 0)}, true, api.OK},
		{api.Curve{p(0, 4, 1, -1)}, false, api.OK},
		{api.Curve{p(-5, 4, 0, top)}, true, api.OK},
		{api.Curve{p(0, 4, 1, 0), p(3, 7, 1, 0)}, false, api.OK},
		// the value, and the slope, of the first piece do not fit at 1, even where a jump is found before
		{api.Curve{p(0, top, 0, 1), p(1, 0, 0, 0)}, false, api.ErrBig},
		{api.Curve{p(0, 0, 0, top), p(1, top, 0, 0)}, false, api.ErrBig},
		{api.Curve{p(0, 0, 0, top), p(1, 7, 0, 0)}, false, api.ErrBig},
		{api.Curve{p(0, 0, 5, 0), p(1, 7, 0, 0), p(2, 0, 0, top), p(3, 7, 0, 0)}, false, api.ErrBig},
		{api.Curve{p(-1, 7, 0, 0), p(top, 7, 0, 0)}, false, api.ErrBig},
		// the last piece is not asked
		{api.Curve{p(0, 7, 0, 0), p(1, 7, 0, top)}, true, api.OK},
	} {
		if is, e := Smooth(c.c); is != c.is || e != c.e {
			t.Errorf("Smooth(%v) = %t, %d; want %t, %d", c.c, is, e, c.is, c.e)
		}
	}
}

func TestP8_1SmoothByPieces(t *testing.T) {
	found := map[bool]int{}
	for _, c := range curves() {
		var m meter
		want, g := c[0].B.Num == 0, api.OK
		for i := range c[1:] {
			value, slope := m.pieceValue(c[i], c[i+1].From), m.pieceSlope(c[i], c[i+1].From)
			want = want && value.Cmp(exact(c[i+1].A)) == 0 && slope.Cmp(exact(c[i+1].B)) == 0
		}
		if m.big {
			want, g = false, api.ErrBig
		}
		if is, e := Smooth(c); is != want || e != g {
			t.Errorf("Smooth(%v) = %t, %d; want %t, %d", c, is, e, want, g)
		}
		found[want && len(c) > 1]++
	}
	if found[true] < 50 || found[false] < 50 {
		t.Errorf("too few results: %v", found)
	}
}

func TestP8_1ArgumentsAreKept(t *testing.T) {
	for _, c := range few(7) {
		kept := slices.Clone(c)
		for _, s := range spans(c)[:9] {
			At(c, s[0])
			Slope(c, s[0])
			Smooth(c)
			Least(c, s[0], s[1])
			First(c, s[0], s[1])
			Add(c, c)
			Sub(c, c)
			Shift(c, s[0])
		}
		if !slices.Equal(c, kept) {
			t.Errorf("%v was changed to %v", kept, c)
		}
	}
}
