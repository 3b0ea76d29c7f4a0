package points

import (
	"math"
	"math/big"
	"testing"

	"loftblock/api"
)

func TestP9_1Valid(t *testing.T) {
	for _, p := range some() {
		if !Valid(p) {
			t.Errorf("Valid(%v) is false", p)
		}
	}
	for _, p := range strangers() {
		if Valid(p) {
			t.Errorf("Valid(%v) is true", p)
		}
	}
}

func TestP9_1Example(t *testing.T) {
	for _, c := range []struct {
		a, b   api.Point
		square int
		length api.Span
	}{
		{at(0, 0, 0), at(3, 4, 12), 169, api.Span{Lo: 13, Hi: 13}},
		{at(0, 0, 0), at(1, 1, 0), 2, api.Span{Lo: 1, Hi: 2}},
		{at(-2, 7, 1), at(-2, 7, 1), 0, api.Span{}},
		{at(-2, 7, 1), at(-2, 7, -4), 25, api.Span{Lo: 5, Hi: 5}},
		{at(-top, 0, 0), at(top, 0, 0), 1 << 42, api.Span{Lo: 1 << 21, Hi: 1 << 21}},
		{at(-top, top, -top), at(top, -top, top), 3 << 42, api.Span{Lo: 3632373, Hi: 3632374}},
	} {
		square, e := Square(c.a, c.b)
		length, f := Length(c.a, c.b)
		if square != c.square || length != c.length || e != api.OK || f != api.OK {
			t.Errorf("from %v to %v: %d, %d, and %v, %d", c.a, c.b, square, e, length, f)
		}
	}
}

func TestP9_1SquareAndLength(t *testing.T) {
	for _, a := range some() {
		for _, b := range some() {
			want := new(big.Int)
			for _, side := range []*big.Int{minus(a.X, b.X), minus(a.Y, b.Y), minus(a.Z, b.Z)} {
				want.Add(want, side.Mul(side, side))
			}
			if n, e := Square(a, b); big.NewInt(int64(n)).Cmp(want) != 0 || e != api.OK {
				t.Errorf("Square(%v, %v) = %d, %d; want %v", a, b, n, e, want)
			}
			if s, e := Length(a, b); s != rootOf(want) || e != api.OK {
				t.Errorf("Length(%v, %v) = %v, %d; want %v", a, b, s, e, rootOf(want))
			}
		}
	}
}

// rootOf returns the least span of a root.
func rootOf(n *big.Int) api.Span {
	root := new(big.Int).Sqrt(n)
	s := api.Span{Lo: int(root.Int64()), Hi: int(root.Int64())}
	if root.Mul(root, root).Cmp(n) < 0 {
		s.Hi++
	}
	return s
}

func TestP9_1Root(t *testing.T) {
	list := []int{0, 1, 2, 3, 99, 100, 101, 1 << 59, 1<<60 - 1, 1 << 60}
	for _, root := range []int{2, 3, 10, 1000, 1<<21 - 1, 1 << 26, 94906267, 1<<30 - 1} {
		list = append(list, root*root-1, root*root, root*root+1, root*root+root)
	}
	next := numbers()
	for range 1000 {
		list = append(list, next(0, 1<<60), next(0, 5000))
	}
	for _, n := range list {
		if s, e := Root(n); s != rootOf(big.NewInt(int64(n))) || e != api.OK {
			t.Errorf("Root(%d) = %v, %d", n, s, e)
		}
	}
	for _, n := range []int{-1, -2, -1 << 60, math.MinInt, 1<<60 + 1, 1 << 61, math.MaxInt} {
		if s, e := Root(n); s != (api.Span{}) || e != api.ErrRange {
			t.Errorf("Root(%d) = %v, %d", n, s, e)
		}
	}
}

func TestP9_1Errors(t *testing.T) {
	for _, p := range strangers() {
		for _, ends := range [][2]api.Point{{p, at(1, 2, 3)}, {at(1, 2, 3), p}, {p, p}} {
			if n, e := Square(ends[0], ends[1]); n != 0 || e != api.ErrArg {
				t.Errorf("Square of %v: %d, %d", ends, n, e)
			}
			if s, e := Length(ends[0], ends[1]); s != (api.Span{}) || e != api.ErrArg {
				t.Errorf("Length of %v: %v, %d", ends, s, e)
			}
		}
	}
}

func TestP9_2Example(t *testing.T) {
	for _, c := range []struct {
		a, b     api.Point
		num, den int
		want     api.Point
	}{
		{at(0, 0, 0), at(10, -10, 3), 0, 1, at(0, 0, 0)},
		{at(0, 0, 0), at(10, -10, 3), 1, 1, at(10, -10, 3)},
		{at(0, 0, 0), at(10, -10, 3), 1, 2, at(5, -5, 1)},
		{at(0, 0, 0), at(10, -10, 3), 1, 3, at(3, -4, 1)},
		{at(0, 0, 0), at(10, -10, 3), 999, 1000, at(9, -10, 2)},
		{at(0, 0, 0), at(10, -10, 3), 1, 1000, at(0, -1, 0)},
		// the product is rounded, not a coordinate without its sign, nor the sum towards zero
		{at(10, -10, 3), at(0, 0, 0), 1, 3, at(6, -7, 2)},
		{at(-5, 5, -1), at(-4, 4, 0), 1, 2, at(-5, 4, -1)},
		{at(-top, top, 7), at(top, -top, 7), 1, 1000, at(2097-top, top-2098, 7)},
		{at(-top, top, 7), at(top, -top, 7), 1000, 1000, at(top, -top, 7)},
	} {
		if p, e := Between(c.a, c.b, c.num, c.den); p != c.want || e != api.OK {
			t.Errorf("Between(%v, %v, %d, %d) = %v, %d; want %v", c.a, c.b, c.num, c.den, p, e, c.want)
		}
	}
}

func TestP9_2Between(t *testing.T) {
	parts := [][2]int{{0, 1}, {1, 1}, {1, 2}, {2, 4}, {1, 3}, {2, 3}, {5, 7}, {0, 1000}, {1, 1000}, {617, 1000}, {999, 1000}, {1000, 1000}, {998, 999}}
	for _, a := range some() {
		for _, b := range some() {
			for _, part := range parts {
				on := func(from, to int) int {
					n := new(big.Int).Mul(minus(to, from), big.NewInt(int64(part[0])))
					// The Euclidean division rounds down, for a positive divisor.
					return from + int(n.Div(n, big.NewInt(int64(part[1]))).Int64())
				}
				want := at(on(a.X, b.X), on(a.Y, b.Y), on(a.Z, b.Z))
				if p, e := Between(a, b, part[0], part[1]); p != want || e != api.OK {
					t.Errorf("Between(%v, %v, %v) = %v, %d; want %v", a, b, part, p, e, want)
				}
			}
		}
	}
}

func TestP9_2Errors(t *testing.T) {
	wrong := [][2]int{{0, 0}, {1, 0}, {0, -1}, {-1, -1}, {1, 1001}, {0, 1001}, {2, 1}, {-1, 1}, {1001, 1000}, {-1, 1000}, {math.MaxInt, 5}, {math.MinInt, 5}, {1, math.MaxInt}, {math.MinInt, math.MinInt}, {math.MaxInt, math.MaxInt}}
	for _, part := range wrong {
		if p, e := Between(at(1, 2, 3), at(4, 5, 6), part[0], part[1]); p != (api.Point{}) || e != api.ErrRange {
			t.Errorf("Between(.., %v) = %v, %d", part, p, e)
		}
	}
	for _, stranger := range strangers() {
		for _, part := range append(wrong, [2]int{1, 2}) {
			for _, ends := range [][2]api.Point{{stranger, at(1, 2, 3)}, {at(1, 2, 3), stranger}} {
				if p, e := Between(ends[0], ends[1], part[0], part[1]); p != (api.Point{}) || e != api.ErrArg {
					t.Errorf("Between(%v, %v) = %v, %d", ends, part, p, e)
				}
			}
		}
	}
}

func TestP9_3Example(t *testing.T) {
	for _, c := range []struct {
		a, b, c api.Point
		turn    int
	}{
		{at(0, 0, 0), at(10, 0, 5), at(5, 1, 0), 1},
		{at(0, 0, 0), at(10, 0, 5), at(5, -1, 9), -1},
		{at(0, 0, 0), at(10, 0, 5), at(20, 0, 7), 0},
		{at(0, 0, 0), at(10, 0, 5), at(-3, 0, -7), 0},
		{at(0, 0, 0), at(0, 3, 0), at(-1, 0, 0), 1},
		{at(0, 0, 0), at(0, 3, 0), at(1, 9, 0), -1},
		// both are the same, seen from above
		{at(4, 4, 0), at(4, 4, 9), at(8, 1, 0), 0},
		{at(-top, -top, 0), at(top, top, 0), at(top-1, top, 0), 1},
		{at(-top, -top, 0), at(top, top, 0), at(top, top-1, 0), -1},
		{at(-top, top, 0), at(top, -top, 0), at(top, top, 0), 1},
	} {
		if n, e := Turn(c.a, c.b, c.c); n != c.turn || e != api.OK {
			t.Errorf("Turn(%v, %v, %v) = %d, %d; want %d", c.a, c.b, c.c, n, e, c.turn)
		}
	}
}

func TestP9_3Turn(t *testing.T) {
	found := map[int]int{}
	for _, a := range some() {
		for _, b := range some() {
			for _, c := range some() {
				want := area(a, b, c).Sign()
				if n, e := Turn(a, b, c); n != want || e != api.OK {
					t.Errorf("Turn(%v, %v, %v) = %d, %d; want %d", a, b, c, n, e, want)
				}
				found[want]++
			}
		}
	}
	if found[1] < 1000 || found[0] < 1000 || found[-1] < 1000 {
		t.Errorf("too few results: %v", found)
	}
}

func TestP9_3Errors(t *testing.T) {
	for _, p := range strangers() {
		for i := range 3 {
			l := []api.Point{at(0, 0, 0), at(1, 0, 0), at(0, 1, 0)}
			l[i] = p
			if n, e := Turn(l[0], l[1], l[2]); n != 0 || e != api.ErrArg {
				t.Errorf("Turn of %v: %d, %d", l, n, e)
			}
		}
	}
}
