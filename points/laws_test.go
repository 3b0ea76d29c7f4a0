package points

import (
	"math/big"
	"slices"
	"testing"

	"loftblock/api"
)

// ways are amounts by which points within half the limits are moved.
func ways() []api.Point {
	return []api.Point{at(1, 0, 0), at(0, -3, 2), at(top/2, -top/2, 17), at(-top/2, -top/2, top/2)}
}

func TestP9_5OrderOfLengths(t *testing.T) {
	for _, a := range some() {
		for _, b := range some() {
			there, e := Square(a, b)
			back, f := Square(b, a)
			if there != back || e != f {
				t.Errorf("Square(%v, %v) = %d, %d; back %d, %d", a, b, there, e, back, f)
			}
			way, e := Length(a, b)
			home, f := Length(b, a)
			if way != home || e != f {
				t.Errorf("Length(%v, %v) = %v, %d; back %v, %d", a, b, way, e, home, f)
			}
		}
	}
}

func TestP9_5NoShorterWay(t *testing.T) {
	for _, a := range some() {
		for _, b := range some() {
			for _, c := range some() {
				direct, _ := Square(a, c)
				first, _ := Square(a, b)
				second, _ := Square(b, c)
				if longer(direct, first, second) {
					t.Errorf("%v to %v is longer than over %v", a, c, b)
				}
				whole, _ := Length(a, c)
				one, _ := Length(a, b)
				other, _ := Length(b, c)
				if whole.Lo > one.Hi+other.Hi {
					t.Errorf("%v to %v has the length %v, but over %v %v and %v", a, c, whole, b, one, other)
				}
			}
		}
	}
}

// longer reports whether the root of n is greater than the roots of a and b together: that is if n - a - b is greater than twice the root of a b.
func longer(n, a, b int) bool {
	left := big.NewInt(int64(n - a - b))
	right := new(big.Int).Mul(big.NewInt(int64(4*a)), big.NewInt(int64(b)))
	return left.Sign() > 0 && left.Mul(left, left).Cmp(right) > 0
}

func TestP9_5TurnsOfRotations(t *testing.T) {
	for _, a := range some() {
		for _, b := range some() {
			for _, c := range some() {
				n, _ := Turn(a, b, c)
				for _, l := range [][3]api.Point{{b, c, a}, {c, a, b}} {
					if m, _ := Turn(l[0], l[1], l[2]); m != n {
						t.Errorf("%v, %v, %v turn %d, but %v %d", a, b, c, n, l, m)
					}
				}
				for _, l := range [][3]api.Point{{c, b, a}, {b, a, c}, {a, c, b}} {
					if m, _ := Turn(l[0], l[1], l[2]); m != -n {
						t.Errorf("%v, %v, %v turn %d, but %v %d", a, b, c, n, l, m)
					}
				}
			}
		}
	}
}

func TestP9_5OwnPointsAreCovered(t *testing.T) {
	for _, l := range lists() {
		for _, p := range l {
			if inside, e := Inside(p, l); !inside || e != api.OK {
				t.Errorf("Inside(%v, %v) = %t, %d", p, l, inside, e)
			}
		}
	}
}

func TestP9_5MorePointsCoverNoLess(t *testing.T) {
	next := numbers()
	covered := 0
	for _, l := range lists() {
		for _, p := range slices.Concat(grid(-1, 1), mixed(next, 3, 50), mixed(next, 10, top/2)) {
			was := false
			for i := range l {
				is, _ := Inside(p, l[:i+1])
				if was && !is {
					t.Errorf("%v is not covered by %v, but by less", p, l[:i+1])
				}
				was = is
			}
			if was {
				covered++
			}
		}
	}
	if covered < 300 {
		t.Error("too few points are covered", covered)
	}
}

func TestP9_5MovedPairs(t *testing.T) {
	next := numbers()
	for _, most := range []int{2, 40, top / 2} {
		l := mixed(next, 12, most)
		for _, by := range ways() {
			m := moved(l, by)
			for i, a := range l {
				for j, b := range l {
					n, _ := Square(a, b)
					if k, e := Square(m[i], m[j]); k != n || e != api.OK {
						t.Errorf("%v and %v, moved by %v: %d, %d", a, b, by, k, e)
					}
					s, _ := Length(a, b)
					if r, e := Length(m[i], m[j]); r != s || e != api.OK {
						t.Errorf("%v and %v, moved by %v: %v, %d", a, b, by, r, e)
					}
					p, _ := Between(a, b, 3, 7)
					if q, e := Between(m[i], m[j], 3, 7); q != moved([]api.Point{p}, by)[0] || e != api.OK {
						t.Errorf("between %v and %v, moved by %v: %v, %d", a, b, by, q, e)
					}
					for k, c := range l {
						n, _ := Turn(a, b, c)
						if o, e := Turn(m[i], m[j], m[k]); o != n || e != api.OK {
							t.Errorf("%v, %v and %v, moved by %v: %d, %d", a, b, c, by, o, e)
						}
					}
				}
			}
		}
	}
}

func TestP9_5MovedLists(t *testing.T) {
	next := numbers()
	for _, l := range lists() {
		places := slices.Concat(grid(-1, 1), mixed(next, 2, 50), mixed(next, 3, top/2))
		for _, by := range ways() {
			m := moved(l, by)
			flat, _ := Flat(l)
			if is, e := Flat(m); is != flat || e != api.OK {
				t.Errorf("%v, moved by %v, is flat: %t, %d", l, by, is, e)
			}
			for i, p := range moved(places, by) {
				inside, _ := Inside(places[i], l)
				if is, e := Inside(p, m); is != inside || e != api.OK {
					t.Errorf("%v in %v, moved by %v, is inside: %t, %d", p, l, by, is, e)
				}
			}
		}
	}
}
