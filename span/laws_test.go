package span

import (
	"math/big"
	"testing"

	"loftblock/api"
)

// inside reports whether all numbers of a are numbers of b.
func inside(a, b api.Span) bool { return b.Lo <= a.Lo && a.Hi <= b.Hi }

// between reports whether a rational number is a number of a.
func between(r *big.Rat, a api.Span) bool {
	return exact(a.Lo).Cmp(r) <= 0 && r.Cmp(exact(a.Hi)) <= 0
}

// numbers returns some numbers of a span, whole ones and others.
func numbers(a api.Span) []*big.Rat {
	width := new(big.Rat).Sub(exact(a.Hi), exact(a.Lo))
	var list []*big.Rat
	for part := range 8 {
		step := new(big.Rat).Mul(width, big.NewRat(int64(part), 7))
		list = append(list, step.Add(step, exact(a.Lo)))
	}
	return list
}

func TestP3_5ResultsOfNumbers(t *testing.T) {
	list := append(few(40), small()...)
	for _, op := range operations[:4] {
		for _, a := range list {
			for _, b := range list {
				all, e := op.do(a, b)
				if e != api.OK {
					continue
				}
				for _, x := range numbers(a) {
					for _, y := range numbers(b) {
						if r := op.number(new(big.Rat), x, y); !between(r, all) {
							t.Errorf("%s(%v, %v) = %v is not in %s(%v, %v) = %v", op.name, x, y, r, op.name, a, b, all)
						}
					}
				}
			}
		}
	}
}

func TestP3_5ResultsOfTimesAndRoot(t *testing.T) {
	for _, a := range append(few(10), small()...) {
		for _, by := range [][2]int{{1, 3}, {-1, 3}, {5, -3}, {-7, -2}, {0, 5}, {top - 1, top}, {2, 1}} {
			all, e := Times(a, by[0], by[1])
			for _, x := range numbers(a) {
				r := new(big.Rat).Mul(x, big.NewRat(int64(by[0]), int64(by[1])))
				if e == api.OK && !between(r, all) {
					t.Errorf("%v is not in Times(%v, %v) = %v", r, a, by, all)
				}
			}
		}
		all, e := Root(a)
		for _, x := range numbers(a) {
			if e == api.OK && (x.Cmp(exact(all.Lo*all.Lo)) < 0 || x.Cmp(exact(all.Hi*all.Hi)) > 0) {
				t.Errorf("the root of %v is not in Root(%v) = %v", x, a, all)
			}
		}
	}
}

// A wider span may give no result, because of a limit or a zero, but if it gives one, the narrower one does, too.
func TestP3_5SpansInside(t *testing.T) {
	list := append(few(20), s(-3, 3), s(1, 5), s(2, 4), s(3, 3), s(-7, -1), s(-4, -2))
	for _, op := range operations[:5] {
		for _, a := range list {
			for _, wider := range list {
				if !inside(a, wider) {
					continue
				}
				for _, b := range list {
					x, e := op.do(a, b)
					if y, g := op.do(wider, b); g == api.OK && (e != api.OK || !inside(x, y)) {
						t.Errorf("%s(%v, %v) = %v, %d; %s(%v, %v) = %v", op.name, a, b, x, e, op.name, wider, b, y)
					}
					x, e = op.do(b, a)
					if y, g := op.do(b, wider); g == api.OK && (e != api.OK || !inside(x, y)) {
						t.Errorf("%s(%v, %v) = %v, %d; %s(%v, %v) = %v", op.name, b, a, x, e, op.name, b, wider, y)
					}
				}
			}
		}
	}
}

func TestP3_5SpansInsideOfOne(t *testing.T) {
	list := spans()
	for _, a := range list {
		for _, wider := range list {
			if !inside(a, wider) {
				continue
			}
			x, e := Root(a)
			if y, g := Root(wider); g == api.OK && (e != api.OK || !inside(x, y)) {
				t.Errorf("Root(%v) = %v, %d; Root(%v) = %v", a, x, e, wider, y)
			}
			x, e = Times(a, -5, 3)
			if y, g := Times(wider, -5, 3); g == api.OK && (e != api.OK || !inside(x, y)) {
				t.Errorf("Times(%v, -5, 3) = %v, %d; Times(%v, -5, 3) = %v", a, x, e, wider, y)
			}
		}
	}
}

func TestP3_5MeetingsInside(t *testing.T) {
	list := few(20)
	for _, a := range list {
		for _, b := range list {
			x, e := Meet(a, b)
			if e == api.OK && (!inside(x, a) || !inside(x, b)) {
				t.Errorf("Meet(%v, %v) = %v", a, b, x)
			}
			for _, wider := range list {
				if y, g := Meet(wider, b); inside(a, wider) && e == api.OK && (g != api.OK || !inside(x, y)) {
					t.Errorf("Meet(%v, %v) = %v; Meet(%v, %v) = %v, %d", a, b, x, wider, b, y, g)
				}
			}
		}
	}
}

func TestP3_5OrderOfSumsAndProducts(t *testing.T) {
	list := append(few(25), s(-3, 3), s(1<<19, 1<<20), s(-1<<20, 1<<19))
	compared := 0
	for _, op := range []int{0, 2} {
		name, do := operations[op].name, operations[op].do
		for _, a := range list {
			for _, b := range list {
				x, e := do(a, b)
				y, g := do(b, a)
				same(t, x, e, y, g, name, a, b)
				if e != api.OK {
					continue
				}
				for _, c := range list {
					left, e := do(x, c)
					y, g := do(b, c)
					if g != api.OK {
						continue
					}
					if right, g := do(a, y); e == api.OK && g == api.OK {
						compared++
						same(t, left, e, right, g, name, a, b, c)
					}
				}
			}
		}
	}
	if compared == 0 {
		t.Error("no results fit")
	}
}

func TestP3_5AddedAndTakenAway(t *testing.T) {
	list := few(6)
	compared := 0
	for _, a := range list {
		for _, b := range list {
			for _, there := range []bool{true, false} {
				do, undo := Add, Sub
				if !there {
					do, undo = Sub, Add
				}
				x, e := do(a, b)
				if e != api.OK {
					continue
				}
				if y, e := undo(x, b); e == api.OK {
					compared++
					if !inside(a, y) {
						t.Errorf("%v, with %v added and taken away, is %v", a, b, y)
					}
				}
			}
		}
	}
	if compared == 0 {
		t.Error("no results fit")
	}
}

func TestP3_5WidthOfFractions(t *testing.T) {
	for _, a := range fractions() {
		for _, unit := range units {
			x, e := Of(a, unit)
			r := new(big.Rat).Mul(big.NewRat(int64(a.Num), int64(a.Den)), exact(unit))
			if e == api.OK && (x.Hi-x.Lo > 1 || (x.Lo == x.Hi) != r.IsInt() || !between(r, x)) {
				t.Errorf("Of(%v, %d) = %v", a, unit, x)
			}
		}
	}
}
