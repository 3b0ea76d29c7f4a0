package quadratic

import (
	"testing"

	"loftblock/api"
)

// values returns the values of some curves at a time, and whether all of them fit.
func values(at api.Frac, list ...api.Curve) ([]api.Frac, bool) {
	var all []api.Frac
	for _, c := range list {
		x, e := At(c, at)
		if e != api.OK {
			return nil, false
		}
		all = append(all, x)
	}
	return all, true
}

func TestP8_5ValuesOfSums(t *testing.T) {
	compared := 0
	for _, a := range few(10) {
		for _, b := range few(9) {
			sum, e := Add(a, b)
			difference, g := Sub(a, b)
			if e != api.OK || g != api.OK {
				continue
			}
			for _, at := range append(moments(a), moments(b)...) {
				list, fit := values(at, a, b, sum, difference)
				if !fit {
					continue
				}
				compared++
				var m meter
				x, y := exact(list[0]), exact(list[1])
				if m.add(x, y).Cmp(exact(list[2])) != 0 || m.sub(x, y).Cmp(exact(list[3])) != 0 {
					t.Errorf("%v and %v at %v: %v", a, b, at, list)
				}
			}
		}
	}
	if compared < 1000 {
		t.Errorf("only %d values fit", compared)
	}
}

func TestP8_5ValuesOfMovedCurves(t *testing.T) {
	compared := 0
	for _, c := range curves() {
		for _, by := range []api.Frac{n(0), n(5), f(-7, 3), f(1, 1000), n(-1 << 30)} {
			moved, e := Shift(c, by)
			if e != api.OK {
				continue
			}
			for _, at := range moments(c) {
				var m meter
				later := m.add(exact(at), exact(by))
				if m.big {
					continue
				}
				x, e := At(c, at)
				y, g := At(moved, frac(later))
				v, h := Slope(c, at)
				w, i := Slope(moved, frac(later))
				compared++
				if x != y || e != g || v != w || h != i {
					t.Errorf("%v at %v: %v, %d and %v, %d; moved by %v: %v, %d and %v, %d", c, at, x, e, v, h, by, y, g, w, i)
				}
			}
		}
	}
	if compared < 1000 {
		t.Errorf("only %d values fit", compared)
	}
}

// inner returns times from one to another, as far as they fit.
func inner(from, to api.Frac) []api.Frac {
	list := []api.Frac{from, to}
	for part := 1; part < 8; part++ {
		var m meter
		step := m.mul(m.sub(exact(to), exact(from)), exact(f(part, 8)))
		if at := m.add(exact(from), step); fits(at) {
			list = append(list, frac(at))
		}
	}
	return list
}

func TestP8_5NoValueIsLess(t *testing.T) {
	compared := 0
	for _, c := range few(7) {
		for _, times := range spans(c) {
			least, e := Least(c, times[0], times[1])
			if e != api.OK {
				continue
			}
			for _, at := range append(inner(times[0], times[1]), moments(c)...) {
				if before(at, times[0]) || before(times[1], at) {
					continue
				}
				compared++
				var m meter
				if m.valueOf(c, at).Cmp(exact(least)) < 0 {
					t.Errorf("%v at %v is less than its least value %v in %v", c, at, least, times)
				}
			}
		}
	}
	if compared < 1000 {
		t.Errorf("only %d values were compared", compared)
	}
}

func TestP8_5BeforeTheFirstTime(t *testing.T) {
	compared := 0
	for _, c := range few(5) {
		for _, times := range spans(c) {
			first, e := First(c, times[0], times[1])
			if e == api.ErrRange {
				continue
			}
			end := times[1]
			if e == api.OK && before(reduced(first.Lo, 1000), end) {
				end = reduced(first.Lo, 1000)
			}
			if before(end, times[0]) {
				continue
			}
			for _, at := range inner(times[0], end) {
				// At the end of the range, or at the first time itself, the value may be less than 0.
				if at == end && e == api.OK {
					continue
				}
				compared++
				var m meter
				if m.valueOf(c, at).Sign() < 0 {
					t.Errorf("%v at %v is less than 0, before %v, %d in %v", c, at, first, e, times)
				}
			}
		}
	}
	if compared < 1000 {
		t.Errorf("only %d values were compared", compared)
	}
}

func TestP8_5LeastValueAndFirstTime(t *testing.T) {
	found := map[bool]int{}
	for _, c := range curves() {
		for _, times := range spans(c) {
			least, e := Least(c, times[0], times[1])
			_, g := First(c, times[0], times[1])
			if e != api.OK || g == api.ErrRange {
				continue
			}
			below := g == api.OK
			found[below]++
			// The value that a piece has at its end counts for the least one; if it is less than 0, so are some before.
			if below != (least.Num < 0) {
				t.Errorf("%v in %v has the least value %v; First: %d", c, times, least, g)
			}
		}
	}
	if found[true] < 1000 || found[false] < 1000 {
		t.Errorf("too few results: %v", found)
	}
}

// Right after the first time below zero, some values are: so it is the same until any later time, and there is none until an earlier one.
func TestP8_5RightAfterTheFirstTime(t *testing.T) {
	compared := 0
	for _, c := range curves() {
		for _, times := range spans(c) {
			first, e := First(c, times[0], times[1])
			if e != api.OK {
				continue
			}
			after, until := reduced(first.Hi+1, 1000), reduced(first.Lo*1000-1, 1000000)
			if before(after, times[1]) {
				compared++
				if x, g := First(c, times[0], after); x != first || g != api.OK {
					t.Errorf("First(%v, %v) = %v, but until %v it is %v, %d", c, times, first, after, x, g)
				}
			}
			if !before(until, times[0]) {
				compared++
				if x, g := First(c, times[0], until); g != api.ErrNone {
					t.Errorf("First(%v, %v) = %v, but until %v it is %v, %d", c, times, first, until, x, g)
				}
			}
		}
	}
	if compared < 1000 {
		t.Errorf("only %d times were compared", compared)
	}
}
