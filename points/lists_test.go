package points

import (
	"slices"
	"testing"

	"loftblock/api"
)

func TestP9_4FlatExample(t *testing.T) {
	for _, c := range []struct {
		l    []api.Point
		flat bool
	}{
		{nil, true},
		{[]api.Point{at(5, 6, 7)}, true},
		{[]api.Point{at(5, 6, 7), at(-5, 6, 1)}, true},
		{[]api.Point{at(5, 6, 7), at(-5, 6, 1), at(top, -top, 0)}, true},
		{[]api.Point{at(0, 0, 0), at(1, 0, 0), at(0, 1, 0), at(0, 0, 1)}, false},
		{[]api.Point{at(0, 0, 0), at(1, 0, 0), at(0, 1, 0), at(7, -9, 0)}, true},
		// a line, and two points beside it
		{[]api.Point{at(0, 0, 0), at(1, 1, 1), at(2, 2, 2), at(5, 0, 0), at(6, 1, 1)}, true},
		{[]api.Point{at(0, 0, 0), at(1, 1, 1), at(2, 2, 2), at(5, 0, 0), at(6, 1, 2)}, false},
		// the same point again and again, at the beginning, too
		{[]api.Point{at(1, 1, 1), at(1, 1, 1), at(1, 1, 1), at(2, 1, 1), at(1, 2, 1)}, true},
		{[]api.Point{at(1, 1, 1), at(1, 1, 1), at(1, 1, 1), at(2, 1, 1), at(1, 2, 1), at(1, 1, 2)}, false},
		{make([]api.Point, 20), true},
		{append(make([]api.Point, 17), at(1, 0, 0), at(0, 1, 0), at(0, 0, 1)), false},
		// upright planes
		{[]api.Point{at(3, 0, 0), at(3, 9, 0), at(3, 0, 9), at(3, -top, top)}, true},
		{[]api.Point{at(3, 0, 0), at(3, 9, 0), at(3, 0, 9), at(4, -top, top)}, false},
	} {
		if flat, e := Flat(c.l); flat != c.flat || e != api.OK {
			t.Errorf("Flat(%v) = %t, %d", c.l, flat, e)
		}
	}
}

// The determinants of points at the corners of the greatest cube are multiples of 2^63, so they are 0 in one word if they are 2^64.
func TestP9_4FlatCube(t *testing.T) {
	flats, wraps := 0, 0
	cube := corners(-top, top)
	for _, a := range cube {
		for _, b := range cube {
			for _, c := range cube {
				for _, d := range cube {
					n := volume(a, b, c, d)
					if flat, e := Flat([]api.Point{a, b, c, d}); flat != (n.Sign() == 0) || e != api.OK {
						t.Errorf("Flat of %v, %v, %v, %v: %t, %d", a, b, c, d, flat, e)
					}
					if n.Sign() == 0 {
						flats++
					} else if n.TrailingZeroBits() >= 64 {
						wraps++
					}
				}
			}
		}
	}
	if flats == 0 || wraps == 0 {
		t.Error("too few cases", flats, wraps)
	}
}

func TestP9_4FlatSmall(t *testing.T) {
	cube := corners(0, 1)
	cube = append(cube, at(2, 1, 0), at(1, 2, 1), at(0, 0, 2), at(-1, 1, 1))
	for _, a := range cube {
		for _, b := range cube {
			for _, c := range cube {
				for _, d := range cube {
					if flat, e := Flat([]api.Point{a, b, c, d}); flat != (volume(a, b, c, d).Sign() == 0) || e != api.OK {
						t.Errorf("Flat of %v, %v, %v, %v: %t, %d", a, b, c, d, flat, e)
					}
				}
			}
		}
	}
}

func TestP9_4FlatLists(t *testing.T) {
	found := map[bool]int{}
	check := func(l []api.Point) {
		want := isFlat(l)
		if flat, e := Flat(l); flat != want || e != api.OK {
			t.Errorf("Flat(%v) = %t, %d", l, flat, e)
		}
		if len(l) > 3 {
			found[want]++
		}
	}
	for i, l := range lists() {
		check(l)
		if len(l) == 0 {
			continue
		}
		// A single point that is moved a little may leave the plane.
		nearly := slices.Clone(l)
		nearly[i%len(l)].Z++
		check(nearly)
		nearly[i%len(l)] = at(top, -top, top)
		check(nearly)
	}
	if found[true] < 50 || found[false] < 50 {
		t.Errorf("too few results: %v", found)
	}
}

func TestP9_4InsideExample(t *testing.T) {
	square := []api.Point{at(0, 0, 0), at(4, 0, 0), at(4, 4, 0), at(0, 4, 0)}
	line := []api.Point{at(2, 2, 0), at(8, 5, 3), at(6, 4, 9), at(4, 3, 1)}
	for _, c := range []struct {
		p      api.Point
		l      []api.Point
		inside bool
	}{
		{at(2, 2, 9), square, true},
		{at(1, 3, 0), square, true},
		{at(0, 0, 7), square, true},
		{at(4, 2, 0), square, true},
		{at(5, 2, 0), square, false},
		{at(-1, -1, 0), square, false},
		{at(8, 0, 0), square, false},
		{at(3, 0, 0), square[:2], true},
		{at(2, 2, 0), square[:2], false},
		{at(5, 0, 0), square[:2], false},
		{at(4, 0, -3), square[1:2], true},
		{at(4, 1, 0), square[1:2], false},
		{at(0, 0, 0), nil, false},
		{at(6, 4, 0), line, true},
		{at(8, 5, 0), line, true},
		{at(10, 6, 0), line, false},
		{at(0, 1, 0), line, false},
		{at(5, 4, 0), line, false},
		// the same points again and again
		{at(1, 1, 0), make([]api.Point, 20), false},
		{at(0, 0, 5), make([]api.Point, 20), true},
		// only the line between the last two of 20 points covers it, or none does
		{at(-5, -5, 0), append(make([]api.Point, 18), at(-6, -4, 0), at(-4, -6, 0)), true},
		{at(-5, -5, 0), append(make([]api.Point, 18), at(-6, -4, 0), at(-3, -6, 0)), false},
		{at(-5, -5, 0), append(make([]api.Point, 18), at(-6, -4, 0)), false},
		// points near the longest line
		{at(top-1, top-1, 0), []api.Point{at(-top, -top, 0), at(top, top, 0)}, true},
		{at(top-1, top-2, 0), []api.Point{at(-top, -top, 0), at(top, top, 0)}, false},
		{at(top-1, top-2, 0), []api.Point{at(-top, -top, 0), at(top, top, 0), at(top, top-1, 0)}, false},
		{at(top, top-1, 0), []api.Point{at(-top, -top, 0), at(top, top, 0), at(top, top-2, 0)}, true},
	} {
		if inside, e := Inside(c.p, c.l); inside != c.inside || e != api.OK {
			t.Errorf("Inside(%v, %v) = %t, %d", c.p, c.l, inside, e)
		}
	}
}

func TestP9_4InsideSmall(t *testing.T) {
	nodes := grid(0, 2)
	places := grid(-1, 3)
	var l []api.Point
	var visit func(left int)
	visit = func(left int) {
		for _, p := range places {
			if inside, e := Inside(p, l); inside != isInside(p, l) || e != api.OK {
				t.Errorf("Inside(%v, %v) = %t, %d", p, l, inside, e)
			}
		}
		if left == 0 {
			return
		}
		for _, node := range nodes {
			l = append(l, node)
			visit(left - 1)
			l = l[:len(l)-1]
		}
	}
	visit(3)
}

func TestP9_4InsideLists(t *testing.T) {
	next := numbers()
	found := map[bool]int{}
	for _, l := range lists() {
		places := slices.Concat(l, grid(-1, 1), mixed(next, 5, 3), mixed(next, 5, 100), mixed(next, 10, top/2))
		for i, a := range l {
			middle, _ := Between(a, l[i/2], 1, 2)
			places = append(places, middle)
		}
		for _, p := range places {
			want := isInside(p, l)
			if inside, e := Inside(p, l); inside != want || e != api.OK {
				t.Errorf("Inside(%v, %v) = %t, %d", p, l, inside, e)
			}
			found[want]++
		}
	}
	if found[true] < 1000 || found[false] < 1000 {
		t.Errorf("too few results: %v", found)
	}
}

func TestP9_4Errors(t *testing.T) {
	check := func(p api.Point, l []api.Point, want api.Errno) {
		t.Helper()
		if inside, e := Inside(p, l); inside || e != want {
			t.Errorf("Inside(%v, %v) = %t, %d", p, l, inside, e)
		}
	}
	for _, length := range []int{21, 22, 1000, 100000} {
		l := make([]api.Point, length)
		if flat, e := Flat(l); flat || e != api.ErrFull {
			t.Errorf("Flat of %d points: %t, %d", length, flat, e)
		}
		check(api.Point{}, l, api.ErrFull)
	}
	for _, p := range strangers() {
		for _, length := range []int{1, 2, 4, 20, 21, 1000} {
			l := make([]api.Point, length)
			l[length-1] = p
			if flat, e := Flat(l); flat || e != api.ErrArg {
				t.Errorf("Flat of %d points, with %v: %t, %d", length, p, flat, e)
			}
			check(api.Point{}, l, api.ErrArg)
			check(p, make([]api.Point, length), api.ErrArg)
			check(p, l, api.ErrArg)
		}
		check(p, nil, api.ErrArg)
	}
}

func TestP9_4ListsStay(t *testing.T) {
	for _, l := range lists() {
		kept := slices.Clone(l)
		Flat(l)
		Inside(at(0, 0, 0), l)
		if !slices.Equal(l, kept) {
			t.Errorf("%v was changed to %v", kept, l)
		}
	}
}
