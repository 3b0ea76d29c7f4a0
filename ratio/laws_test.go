package ratio

import (
	"testing"

	"loftblock/api"
)

// both returns whether two results are there, to be compared; if one does not fit, a law says nothing.
func both(e, g api.Errno) bool { return e == api.OK && g == api.OK }

// chain applies one operation after the other, from the left.
func chain(do func(a, b api.Frac) (api.Frac, api.Errno), a, b, c api.Frac) (api.Frac, api.Errno) {
	x, e := do(a, b)
	if e != api.OK {
		return x, e
	}
	return do(x, c)
}

func TestP2_6Commutative(t *testing.T) {
	list := few(5)
	for _, a := range list {
		for _, b := range list {
			for _, do := range []func(a, b api.Frac) (api.Frac, api.Errno){Add, Mul} {
				x, e := do(a, b)
				if y, g := do(b, a); x != y || e != g {
					t.Errorf("%v and %v: %v, %d and %v, %d", a, b, x, e, y, g)
				}
			}
		}
	}
}

func TestP2_6AssociativeAndDistributive(t *testing.T) {
	list := few(20)
	compared := 0
	for _, a := range list {
		for _, b := range list {
			for _, c := range list {
				for _, do := range []func(a, b api.Frac) (api.Frac, api.Errno){Add, Mul} {
					x, e := chain(do, a, b, c)
					y, g := chain(do, b, c, a)
					if both(e, g) {
						compared++
						if x != y {
							t.Errorf("not associative: %v, %v, %v: %v and %v", a, b, c, x, y)
						}
					}
				}
				sum, e := Add(a, b)
				left, g := Mul(a, c)
				right, h := Mul(b, c)
				if !both(e, g) || h != api.OK {
					continue
				}
				x, e := Mul(sum, c)
				if y, g := Add(left, right); both(e, g) && x != y {
					t.Errorf("not distributive: %v, %v, %v: %v and %v", a, b, c, x, y)
				}
			}
		}
	}
	if compared == 0 {
		t.Error("no results fit")
	}
}

func TestP2_6Undone(t *testing.T) {
	list := few(5)
	compared := 0
	for _, a := range list {
		for _, b := range list {
			if x, e := Add(a, b); e == api.OK {
				compared++
				if y, e := Sub(x, b); y != a || e != api.OK {
					t.Errorf("%v + %v - %v = %v, %d", a, b, b, y, e)
				}
			}
			if x, e := Mul(a, b); e == api.OK && b.Num != 0 {
				compared++
				if y, e := Div(x, b); y != a || e != api.OK {
					t.Errorf("%v * %v / %v = %v, %d", a, b, b, y, e)
				}
			}
		}
	}
	if compared == 0 {
		t.Error("no results fit")
	}
}

func TestP2_6OrderIsKept(t *testing.T) {
	list := few(20)
	for _, a := range list {
		for _, b := range list {
			want, _ := Cmp(a, b)
			for _, c := range list {
				x, e := Add(a, c)
				y, g := Add(b, c)
				if n, h := Cmp(x, y); both(e, g) && (n != want || h != api.OK) {
					t.Errorf("%v and %v, and both + %v: %d and %d, %d", a, b, c, want, n, h)
				}
				x, e = Mul(a, c)
				y, g = Mul(b, c)
				if n, h := Cmp(x, y); both(e, g) && c.Num > 0 && (n != want || h != api.OK) {
					t.Errorf("%v and %v, and both * %v: %d and %d, %d", a, b, c, want, n, h)
				}
			}
		}
	}
}

func TestP2_6BetweenFloorAndCeil(t *testing.T) {
	for _, a := range fractions() {
		floor, e := Floor(a)
		ceil, g := Ceil(a)
		if !both(e, g) || ceil-floor > 1 || (ceil == floor) != (a.Den == 1) {
			t.Errorf("%v lies between %d, %d and %d, %d", a, floor, e, ceil, g)
		}
		below, _ := Cmp(f(floor, 1), a)
		above, _ := Cmp(a, f(ceil, 1))
		if below > 0 || above > 0 {
			t.Errorf("%v is not between %d and %d", a, floor, ceil)
		}
	}
}

func TestP2_6TextsAreReadBack(t *testing.T) {
	for _, a := range fractions() {
		s, _ := Text(a)
		if back, e := Parse(s); back != a || e != api.OK {
			t.Errorf("Parse(%q) = %v, %d; want %v", s, back, e, a)
		}
	}
}
