package quadratic

import (
	"testing"

	"loftblock/api"
)

func TestP8_3Examples(t *testing.T) {
	bowl := api.Curve{p(0, 3, -4, 1)}
	wave := api.Curve{p(0, 0, -4, 1), p(4, 0, 4, -1), p(8, 0, -4, 2)}
	for _, c := range []struct {
		c        api.Curve
		from, to api.Frac
		want     api.Frac
	}{
		{example(), n(0), n(4), n(-5)}, {example(), n(0), n(2), n(0)}, {example(), n(-5), n(1), n(3)}, {example(), n(-5), n(-4), n(4)},
		{example(), n(5), n(9), n(-3)}, {example(), n(3), n(3), n(-5)}, {example(), n(2), n(2), n(0)}, {example(), n(-2), n(-2), n(4)},
		// the lowest value of a piece, if it is inside
		{bowl, n(0), n(9), n(-1)}, {bowl, n(0), n(2), n(-1)}, {bowl, n(2), n(9), n(-1)}, {bowl, n(0), n(1), n(0)}, {bowl, n(3), n(9), n(0)},
		{bowl, f(3, 2), f(5, 2), n(-1)}, {bowl, n(-9), n(0), n(3)}, {bowl, n(-9), n(9), n(-1)},
		{wave, n(0), n(8), n(-4)}, {wave, n(0), f(1, 2), f(-7, 4)}, {wave, n(4), n(8), n(0)}, {wave, n(4), n(9), n(-2)}, {wave, n(8), n(20), n(-2)},
		{wave, f(17, 2), n(9), n(-2)},
		// a piece that ends low before a jump, at the end of the range, too
		{api.Curve{p(0, 1, -1, 0), p(5, 1, 0, 0)}, n(0), n(9), n(-4)},
		{api.Curve{p(0, 1, -1, 0), p(5, 1, 0, 0)}, n(0), n(5), n(-4)},
		{api.Curve{p(0, 1, -1, 0), p(5, 1, 0, 0)}, n(5), n(9), n(1)},
		{api.Curve{p(0, 1, -1, 0), p(5, -9, 0, 0)}, n(0), n(5), n(-9)},
		{api.Curve{p(0, 1, -1, 0), p(5, -9, 0, 0)}, n(0), f(49, 10), f(-39, 10)},
		{api.Curve{p(0, 1, 0, 0), p(1, -2, 0, 0), p(2, -1, 0, 0)}, n(0), n(9), n(-2)},
	} {
		if x, e := Least(c.c, c.from, c.to); x != c.want || e != api.OK {
			t.Errorf("Least(%v, %v, %v) = %v, %d; want %v", c.c, c.from, c.to, x, e, c.want)
		}
	}
}

func TestP8_3Least(t *testing.T) {
	found := map[api.Errno]int{}
	for _, c := range few(4) {
		for _, s := range spans(c) {
			want, g := leastBy(c, s[0], s[1])
			if x, e := Least(c, s[0], s[1]); x != want || e != g {
				t.Errorf("Least(%v, %v) = %v, %d; want %v, %d", c, s, x, e, want, g)
			}
			found[g]++
		}
	}
	if found[api.OK] < 1000 || found[api.ErrBig] < 1000 {
		t.Errorf("too few results: %v", found)
	}
}

func TestP8_3Big(t *testing.T) {
	for _, c := range []struct {
		c        api.Curve
		from, to api.Frac
		want     api.Errno
	}{
		// 2 C
		{api.Curve{p(0, 0, 0, top/2)}, n(0), n(1), api.OK},
		{api.Curve{p(0, 0, 0, top/2+1)}, n(0), n(1), api.ErrBig},
		{api.Curve{p(0, 0, 0, top/2+1)}, n(0), n(0), api.ErrBig},
		{api.Curve{p(0, 0, 0, -top/2-1)}, n(0), n(1), api.OK},
		// -B / 2 C, even if it is outside
		{api.Curve{{From: n(0), A: n(0), B: f(-1, 1<<30), C: n(1 << 29)}}, f(1, 2), n(1), api.OK},
		{api.Curve{{From: n(0), A: n(0), B: f(-1, 1<<30), C: n(1<<29 + 1)}}, f(1, 2), n(1), api.ErrBig},
		{api.Curve{{From: n(0), A: n(0), B: f(1, 1<<30), C: n(1<<29 + 1)}}, f(1, 2), n(1), api.ErrBig},
		// the lowest value -B B / 4 C, only if it is inside
		{api.Curve{{From: n(0), A: n(0), B: f(-3, 1<<29), C: n(1)}}, n(0), f(1, 1<<20), api.OK},
		{api.Curve{{From: n(0), A: n(0), B: f(-3, 1<<30), C: n(1)}}, n(0), f(1, 1<<20), api.ErrBig},
		{api.Curve{{From: n(0), A: n(0), B: f(3, 1<<30), C: n(1)}}, n(0), f(1, 1<<20), api.OK},
		// the piece before, at the From of the next one, is asked at the end of the range, too
		{api.Curve{p(0, top, 1, 0), p(1, 0, 0, 0)}, n(0), n(1), api.ErrBig},
		{api.Curve{p(0, top, 1, 0), p(1, 0, 0, 0)}, n(1), n(2), api.OK},
		{api.Curve{p(0, top, 1, 0), p(2, 0, 0, 0)}, n(0), n(1), api.ErrBig},
		// pieces that are not the piece at a time of the range are not asked
		{api.Curve{p(0, 0, 0, top), p(1, 0, 0, 0), p(2, 0, 0, top)}, n(1), f(3, 2), api.OK},
		{api.Curve{p(0, 0, 0, top), p(1, 0, 0, 0), p(2, 0, 0, top)}, f(1, 2), f(3, 2), api.ErrBig},
		{api.Curve{p(0, 0, 0, top), p(1, 0, 0, 0), p(2, 0, 0, top)}, n(1), n(3), api.ErrBig},
		{api.Curve{p(0, 0, 0, top)}, n(-5), n(-1), api.OK},
		// before the first piece there is no operation
		{api.Curve{p(top, 0, 0, 0)}, n(-top), n(top), api.OK},
	} {
		x, e := Least(c.c, c.from, c.to)
		if e != c.want || e != api.OK && x != (api.Frac{}) {
			t.Errorf("Least(%v, %v, %v) = %v, %d; want %d", c.c, c.from, c.to, x, e, c.want)
		}
	}
}

func TestP8_3Errors(t *testing.T) {
	for _, c := range wrong() {
		if x, e := Least(c, n(2), n(1)); x != (api.Frac{}) || e != api.ErrArg {
			t.Errorf("Least(%v) = %v, %d; want ErrArg", c, x, e)
		}
	}
	for _, s := range strangers {
		for _, times := range [][2]api.Frac{{s, n(1)}, {n(1), s}, {s, s}} {
			if x, e := Least(example(), times[0], times[1]); x != (api.Frac{}) || e != api.ErrArg {
				t.Errorf("Least in %v = %v, %d; want ErrArg", times, x, e)
			}
		}
	}
	for _, times := range [][2]api.Frac{{n(2), n(1)}, {f(1, 2), f(1, 3)}, {n(top), n(-top)}, {n(0), f(-1, top)}} {
		for _, c := range []api.Curve{example(), {p(-top, top, top, top)}} {
			if x, e := Least(c, times[0], times[1]); x != (api.Frac{}) || e != api.ErrRange {
				t.Errorf("Least(%v) in %v = %v, %d; want ErrRange", c, times, x, e)
			}
		}
	}
}
