package quadratic

import (
	"testing"

	"loftblock/api"
)

const far = 1 << 40

// lifted returns u u - 2 u + a from a time on, which is lowest 1 second later, with a - 1.
func lifted(from, a api.Frac) api.Curve {
	return api.Curve{{From: from, A: a, B: n(-2), C: n(1)}}
}

func s(lo, hi int) api.Span { return api.Span{Lo: lo, Hi: hi} }

func TestP8_4Examples(t *testing.T) {
	root := api.Curve{p(0, 2, 0, -1), p(3, -5, 1, 0)}
	for _, c := range []struct {
		c        api.Curve
		from, to api.Frac
		want     api.Span
	}{
		{example(), n(0), n(4), s(2000, 2000)}, {example(), n(-9), n(far), s(2000, 2000)}, {example(), n(3), n(4), s(3000, 3000)},
		{example(), n(2), n(4), s(2000, 2000)}, {example(), f(7, 3), f(7, 3), s(2333, 2334)}, {example(), f(2001, 1000), n(4), s(2001, 2001)},
		{example(), n(3), n(3), s(3000, 3000)}, {example(), n(7), f(15, 2), s(7000, 7000)},
		{root, n(0), n(4), s(1414, 1415)}, {root, n(-far), n(far), s(1414, 1415)}, {root, f(707, 500), n(2), s(1414, 1415)},
		// ends within the same millisecond as the root, before it and after it
		{root, f(7071, 5000), n(2), s(1414, 1415)}, {root, n(0), f(70711, 50000), s(1414, 1415)}, {root, f(7071, 5000), f(70711, 50000), s(1414, 1415)}, {root, f(2829, 2000), n(2), s(1414, 1415)},
		// (5 u - 1/1000) (1/1250 - u) / 5, which is below zero at the millisecond before the range, too
		{api.Curve{{From: n(0), A: f(-1, 6250000), B: f(1, 1000), C: n(-1)}}, f(1, 2000), n(1), s(0, 1)},
		// falling at once, by the slope, and by C
		{api.Curve{p(0, 0, -1, 9)}, n(0), n(1), s(0, 0)}, {api.Curve{p(0, 0, 0, -1)}, n(0), n(1), s(0, 0)}, {api.Curve{p(0, 0, 0, -1)}, n(-5), n(1), s(0, 0)},
		{api.Curve{p(0, 0, -1, 0)}, n(-5), f(1, top), s(0, 0)}, {api.Curve{{From: f(1, 3), A: n(0), B: n(0), C: n(-1)}}, n(0), n(1), s(333, 334)},
		// a level curve, before its first piece
		{api.Curve{p(5, -1, 0, 0)}, n(2), n(3), s(2000, 2000)}, {api.Curve{p(5, -1, 9, 0)}, f(1, 3), n(9), s(333, 334)}, {api.Curve{p(5, -1, 0, 0)}, n(-far), n(-far), s(-1000*far, -1000*far)},
		{api.Curve{p(5, -1, 0, 0)}, n(far), n(far), s(1000*far, 1000*far)}, {api.Curve{p(5, -1, 0, 0)}, f(-1, 3), n(3), s(-334, -333)},
		// a jump inside, and at the end
		{api.Curve{p(0, 1, 0, 0), p(2, -1, 0, 0)}, n(0), n(9), s(2000, 2000)}, {api.Curve{p(0, 1, 0, 0), p(2, -1, 0, 0)}, n(0), n(2), s(2000, 2000)},
		{api.Curve{p(0, 1, 0, 0), {From: f(5, 3), A: n(-1), B: n(0), C: n(0)}}, n(0), f(5, 3), s(1666, 1667)},
		// a jump up from below zero
		{api.Curve{p(0, 1, -1, 0), p(2, 5, 0, 0)}, n(0), n(9), s(1000, 1000)}, {api.Curve{p(0, -1, 0, 0), p(2, 5, 0, 0)}, n(1), n(9), s(1000, 1000)},
		// a jump to zero, from where it falls
		{api.Curve{p(0, 1, 0, 0), p(2, 0, -1, 0)}, n(0), n(9), s(2000, 2000)},
		// dips of 2/1024 and 2/2^30 seconds
		{lifted(n(0), f(1<<20-1, 1<<20)), n(0), n(9), s(999, 1000)}, {lifted(n(0), f(top-1, top)), n(0), n(9), s(999, 1000)},
		{lifted(f(1, 1<<29), f(top-1, top)), n(0), n(9), s(1000, 1001)}, {lifted(f(1, 1<<30), f(top-1, top)), n(0), n(9), s(1000, 1000)},
		{lifted(n(far-1), f(top-1, top)), n(0), n(far), s(1000*far-1, 1000*far)}, {lifted(n(-far), f(top-1, top)), n(-far), n(far), s(-1000*far+999, -1000*far+1000)},
		// from the lowest value on
		{lifted(n(0), f(top-1, top)), n(1), n(9), s(1000, 1000)}, {lifted(n(0), f(top-1, top)), f(1<<30-1, 1<<30), n(9), s(999, 1000)},
		{lifted(n(0), f(top-1, top)), n(0), n(1), s(999, 1000)},
	} {
		if x, e := First(c.c, c.from, c.to); x != c.want || e != api.OK {
			t.Errorf("First(%v, %v, %v) = %v, %d; want %v", c.c, c.from, c.to, x, e, c.want)
		}
	}
}

func TestP8_4None(t *testing.T) {
	for _, c := range []struct {
		c        api.Curve
		from, to api.Frac
	}{
		{example(), n(-5), n(2)}, {example(), n(2), n(2)}, {example(), n(-far), n(-far)}, {example(), n(8), n(far)}, {example(), n(8), n(8)},
		{api.Curve{p(0, 2, 0, -1)}, f(7071, 5000), f(141421, 100000)}, {api.Curve{p(0, 2, 0, -1)}, f(7071, 5000), f(7071, 5000)},
		// it would fall right after the end, or falls until there from above
		{api.Curve{p(0, 0, -1, 0)}, n(0), n(0)}, {api.Curve{p(0, 0, -1, 0)}, n(-5), n(0)}, {api.Curve{p(0, 1, -1, 0)}, n(0), n(1)}, {api.Curve{p(0, 0, 0, -1)}, n(0), n(0)},
		// the next piece begins at the root
		{api.Curve{p(0, 1, -1, 0), p(1, 0, 0, 0)}, n(0), n(9)}, {api.Curve{p(0, 1, 0, -1), p(1, 2, 0, 0)}, n(0), n(9)},
		{api.Curve{p(0, 1, 0, 0), p(2, -1, 0, 0)}, n(0), f(1999999, 1000000)},
		// it only touches zero
		{lifted(n(0), n(1)), n(0), n(9)}, {lifted(n(0), n(1)), n(1), n(9)}, {lifted(n(0), n(1)), n(0), n(1)}, {lifted(n(0), n(1)), n(1), n(1)},
		{lifted(n(0), f(top, top-1)), n(0), n(9)}, {api.Curve{p(0, 0, 0, 1)}, n(0), n(9)}, {api.Curve{p(0, 0, 0, 0)}, n(-9), n(9)}, {api.Curve{p(0, 0, 1, 1)}, n(-9), n(9)},
		// the dip comes before, and after
		{lifted(n(0), f(top-1, top)), f(1<<30+1, 1<<30), n(9)}, {lifted(n(0), f(top-1, top)), n(0), f(1<<30-1, 1<<30)},
		{lifted(n(-9), f(1, 2)), n(0), n(9)}, {lifted(n(9), f(1, 2)), n(0), n(9)},
		// a piece outside, and the level part of a curve before a piece that falls
		{api.Curve{p(0, -1, 0, 0), p(2, 1, 0, 0), p(5, -1, 0, 0)}, n(2), n(4)}, {api.Curve{p(top, 0, -1, 0)}, n(-far), n(far)},
	} {
		if x, e := First(c.c, c.from, c.to); x != (api.Span{}) || e != api.ErrNone {
			t.Errorf("First(%v, %v, %v) = %v, %d; want ErrNone", c.c, c.from, c.to, x, e)
		}
	}
}

// kindOf tells apart what kind of a result a test has met.
func kindOf(x api.Span, e api.Errno) string {
	switch {
	case e == api.ErrRange:
		return "range"
	case e == api.ErrNone:
		return "none"
	case x.Lo == x.Hi:
		return "exact"
	default:
		return "between"
	}
}

func TestP8_4First(t *testing.T) {
	found := map[string]int{}
	for _, c := range curves() {
		for _, times := range spans(c) {
			if before(times[0], n(-far)) || before(n(far), times[1]) {
				continue
			}
			want, g := firstBy(c, times[0], times[1])
			x, e := First(c, times[0], times[1])
			if x != want || e != g {
				t.Errorf("First(%v, %v) = %v, %d; want %v, %d", c, times, x, e, want, g)
			}
			found[kindOf(x, e)]++
		}
	}
	if found["none"] < 1000 || found["exact"] < 1000 || found["between"] < 1000 {
		t.Errorf("too few results: %v", found)
	}
}

// All values from 0 on are positive until the first root, where many numbers have as many bits as there may be.
func TestP8_4LargeNumbers(t *testing.T) {
	next := numbers()
	found := map[string]int{}
	for i := range 3000 {
		large := func() api.Frac { return reduced(next(top-1<<20, top), next(top-1<<20, top)) }
		q := api.Piece3{From: reduced(next(-top, top), next(top/2, top)), A: large(), B: large(), C: large()}
		switch i % 3 {
		case 0:
			q.B.Num = -q.B.Num
			q.C = reduced(next(top/4-1<<16, top/4+1<<16), next(top-1<<20, top))
		case 1:
			q.C.Num = -q.C.Num
		default:
			q.A, q.C = reduced(next(1, top), next(1, 1<<10)), reduced(next(-top, top), next(1, top))
		}
		from, to := reduced(next(-top, top), next(top/2, top)), reduced(next(top-9, top), next(1<<20, 1<<30))
		want, g := firstBy(api.Curve{q}, from, to)
		x, e := First(api.Curve{q}, from, to)
		if x != want || e != g {
			t.Errorf("First(%v, %v, %v) = %v, %d; want %v, %d", q, from, to, x, e, want, g)
		}
		found[kindOf(x, e)]++
	}
	if found["none"] < 100 || found["between"] < 1000 {
		t.Errorf("too few results: %v", found)
	}
}

func TestP8_4LargestNumbers(t *testing.T) {
	list := []api.Frac{n(top), n(-top), f(top-1, top), f(1-top, top), f(top, top-1), f(1, top), f(-1, top), n(0)}
	starts := []api.Frac{n(-top), f(-top, top-1), f(-1, top), n(-far), f(1, top-1)}
	ends := []api.Frac{n(far), f(top-1, 1<<20), f(top-3, 1<<20+1), f(-top, top-1), f(top, top-1)}
	for _, from := range starts {
		for _, to := range ends {
			for _, a := range list {
				for _, b := range list {
					for _, c := range list {
						curve := api.Curve{{From: from, A: a, B: b, C: c}, {From: n(top), A: n(-1), B: n(0), C: n(0)}}
						start := from
						if before(start, n(-far)) {
							start = n(-far)
						}
						if before(to, start) {
							continue
						}
						want, g := firstBy(curve, start, to)
						if x, e := First(curve, start, to); x != want || e != g {
							t.Errorf("First(%v, %v, %v) = %v, %d; want %v, %d", curve, start, to, x, e, want, g)
						}
					}
				}
			}
		}
	}
}

func TestP8_4Errors(t *testing.T) {
	for _, c := range wrong() {
		if x, e := First(c, n(2), n(1)); x != (api.Span{}) || e != api.ErrArg {
			t.Errorf("First(%v) = %v, %d; want ErrArg", c, x, e)
		}
	}
	for _, w := range strangers {
		for _, times := range [][2]api.Frac{{w, n(-far - 1)}, {n(far + 1), w}, {w, w}} {
			if x, e := First(example(), times[0], times[1]); x != (api.Span{}) || e != api.ErrArg {
				t.Errorf("First in %v = %v, %d; want ErrArg", times, x, e)
			}
		}
	}
	little := f(1<<59+1, 1<<19) // more than 2^40
	for _, times := range [][2]api.Frac{
		{n(4), n(3)}, {f(5, 2), f(7, 3)}, {n(far), n(-far)}, {n(3), little}, {f(-1<<59-1, 1<<19), n(4)}, {little, little},
		{n(-far - 1), n(-far - 1)}, {n(-top), n(top)}, {n(0), n(top)}, {n(far + 1), n(far + 1)}, {n(-far - 1), n(0)}, {n(top), n(-top)},
	} {
		if x, e := First(example(), times[0], times[1]); x != (api.Span{}) || e != api.ErrRange {
			t.Errorf("First in %v = %v, %d; want ErrRange", times, x, e)
		}
	}
}
