package span

import (
	"math"
	"math/big"
	"testing"

	"loftblock/api"
	"loftblock/ratio"
)

const top = 1 << 60

// s returns a span as it stands, valid or not.
func s(lo, hi int) api.Span { return api.Span{Lo: lo, Hi: hi} }

func f(num, den int) api.Frac { return api.Frac{Num: num, Den: den} }

// ends are numbers up to the limits, among them some with products near them.
var ends = []int{
	-top, -top + 1, -1 << 59, -1<<40 - 1, -1 << 30, -1000003, -17, -8, -5, -3, -2, -1,
	0, 1, 2, 3, 4, 7, 9, 1 << 20, 1<<30 - 1, 1 << 30, 1<<30 + 1, 1 << 40, 1<<59 + 1, top - 1, top,
}

// spans returns valid spans of all sizes.
func spans() []api.Span {
	var list []api.Span
	for i, lo := range ends {
		for _, hi := range ends[i:] {
			list = append(list, s(lo, hi))
		}
	}
	return list
}

// few returns some of the spans, for tests with all pairs or triples.
func few(step int) []api.Span {
	list := []api.Span{s(0, 0), s(-top, top), s(top, top), s(-top, -top), s(1, 1), s(-1, -1), s(-1, 1), s(-2, 3), s(4, 5), s(7, 8), s(-3, -2), s(2, 17)}
	for i, a := range spans() {
		if i%step == 0 {
			list = append(list, a)
		}
	}
	return list
}

// small returns all spans of small numbers.
func small() []api.Span {
	var list []api.Span
	for lo := -5; lo <= 5; lo++ {
		for hi := lo; hi <= 5; hi++ {
			list = append(list, s(lo, hi))
		}
	}
	return list
}

func holds(a api.Span, n int) bool { return a.Lo <= n && n <= a.Hi }

var units = []int{1, 2, 3, 9, 10, 17, 1000, 1<<20 + 1, 1 << 39, 1<<40 - 1, 1 << 40}

// fractions returns valid fractions of all sizes, and of both signs.
func fractions() []api.Frac {
	var list []api.Frac
	for _, num := range ends {
		for _, den := range ends {
			if a := f(num, den); ratio.Valid(a) {
				list = append(list, a)
			}
		}
	}
	return list
}

// strangers are no spans: because of their order, or a limit.
var strangers = []api.Span{
	s(1, 0), s(0, -1), s(-4, -5), s(top, -top), s(top, top-1), s(1-top, -top),
	s(0, top+1), s(top+1, top+1), s(-top-1, 0), s(-top-1, -top-1), s(-top-1, top+1), s(-top, top+1), s(-top-1, top),
	s(math.MinInt, math.MaxInt), s(math.MinInt, 0), s(0, math.MaxInt), s(math.MaxInt, math.MinInt), s(math.MinInt, math.MinInt), s(math.MaxInt, math.MaxInt),
}

// operations make one span of two.
var operations = []struct {
	name string
	do   func(a, b api.Span) (api.Span, api.Errno)
	// number makes one number of two; it is nil for operations on sets.
	number func(z, a, b *big.Rat) *big.Rat
}{
	{"Add", Add, (*big.Rat).Add}, {"Sub", Sub, (*big.Rat).Sub}, {"Mul", Mul, (*big.Rat).Mul}, {"Div", Div, (*big.Rat).Quo}, {"Hull", Hull, nil}, {"Meet", Meet, nil},
}

func exact(n int) *big.Rat { return new(big.Rat).SetInt64(int64(n)) }

// down returns the greatest integer that is not greater than r.
func down(r *big.Rat) *big.Int {
	// The division of math/big that is called Div goes down for positive divisors.
	return new(big.Int).Div(r.Num(), r.Denom())
}

func up(r *big.Rat) *big.Int {
	n := down(new(big.Rat).Neg(r))
	return n.Neg(n)
}

// meant returns the least span that contains some numbers, or ErrBig, by the definition of the chapter, with package math/big.
func meant(numbers ...*big.Rat) (api.Span, api.Errno) {
	least, greatest := numbers[0], numbers[0]
	for _, r := range numbers {
		if r.Cmp(least) < 0 {
			least = r
		}
		if r.Cmp(greatest) > 0 {
			greatest = r
		}
	}
	lo, hi := down(least), up(greatest)
	if lo.Cmp(big.NewInt(-top)) < 0 || hi.Cmp(big.NewInt(top)) > 0 {
		return api.Span{}, api.ErrBig
	}
	return s(int(lo.Int64()), int(hi.Int64())), api.OK
}

// corners returns the results of an operation on the ends of two spans. The least and the greatest of all results are among them.
func corners(number func(z, a, b *big.Rat) *big.Rat, a, b api.Span) []*big.Rat {
	var list []*big.Rat
	for _, x := range []int{a.Lo, a.Hi} {
		for _, y := range []int{b.Lo, b.Hi} {
			list = append(list, number(new(big.Rat), exact(x), exact(y)))
		}
	}
	return list
}

// same compares a result with the one that is wanted.
func same(t *testing.T, got api.Span, e api.Errno, want api.Span, wantErr api.Errno, call string, arguments ...any) {
	t.Helper()
	if got != want || e != wantErr {
		t.Errorf("%s%v = %v, %d; want %v, %d", call, arguments, got, e, want, wantErr)
	}
}

func TestP3_1Valid(t *testing.T) {
	for _, a := range spans() {
		if !Valid(a) {
			t.Errorf("Valid(%v) is false", a)
		}
	}
	for _, a := range strangers {
		if Valid(a) {
			t.Errorf("Valid(%v) is true", a)
		}
	}
	for lo := -4; lo <= 4; lo++ {
		for hi := -4; hi <= 4; hi++ {
			if Valid(s(lo, hi)) != (lo <= hi) {
				t.Errorf("Valid(%d..%d) is not %t", lo, hi, lo <= hi)
			}
		}
	}
}

func TestP3_1Examples(t *testing.T) {
	for _, c := range []struct{ a, b, sum, difference, product api.Span }{
		{s(-2, 3), s(4, 5), s(2, 8), s(-7, -1), s(-10, 15)}, {s(4, 5), s(-2, 3), s(2, 8), s(1, 7), s(-10, 15)},
		{s(1, 2), s(3, 4), s(4, 6), s(-3, -1), s(3, 8)}, {s(-2, -1), s(3, 4), s(1, 3), s(-6, -4), s(-8, -3)}, {s(-2, -1), s(-4, -3), s(-6, -4), s(1, 3), s(3, 8)},
		{s(-2, 3), s(-5, 7), s(-7, 10), s(-9, 8), s(-15, 21)}, {s(-3, 2), s(-7, 1), s(-10, 3), s(-4, 9), s(-14, 21)}, {s(-2, 3), s(-5, -4), s(-7, -1), s(2, 8), s(-15, 10)},
		{s(0, 0), s(-top, top), s(-top, top), s(-top, top), s(0, 0)}, {s(0, 0), s(0, 0), s(0, 0), s(0, 0), s(0, 0)}, {s(0, 2), s(-3, 0), s(-3, 2), s(0, 5), s(-6, 0)},
	} {
		for i, want := range []api.Span{c.sum, c.difference, c.product} {
			x, e := operations[i].do(c.a, c.b)
			same(t, x, e, want, api.OK, operations[i].name, c.a, c.b)
		}
	}
}

// Results that just fit, and ones of which one end just does not.
func TestP3_1Limits(t *testing.T) {
	big := s(0, 0)
	for _, c := range []struct {
		name       string
		do         func(a, b api.Span) (api.Span, api.Errno)
		a, b, want api.Span
		wantErr    api.Errno
	}{
		{"Add", Add, s(top-1, top-1), s(1, 1), s(top, top), api.OK}, {"Add", Add, s(0, top-1), s(1, 2), big, api.ErrBig}, {"Add", Add, s(1-top, 0), s(-1, 0), s(-top, 0), api.OK}, {"Add", Add, s(1-top, 0), s(-2, 0), big, api.ErrBig},
		{"Add", Add, s(top, top), s(top, top), big, api.ErrBig}, {"Add", Add, s(-top, -top), s(-top, -top), big, api.ErrBig}, {"Add", Add, s(-top, top), s(0, 0), s(-top, top), api.OK}, {"Add", Add, s(-top, -top), s(top, top), s(0, 0), api.OK},
		{"Sub", Sub, s(top-1, top-1), s(-1, -1), s(top, top), api.OK}, {"Sub", Sub, s(0, top-1), s(-2, -1), big, api.ErrBig}, {"Sub", Sub, s(1-top, 0), s(0, 1), s(-top, 0), api.OK}, {"Sub", Sub, s(1-top, 0), s(0, 2), big, api.ErrBig},
		{"Sub", Sub, s(top, top), s(top, top), s(0, 0), api.OK}, {"Sub", Sub, s(-top, top), s(-top, top), big, api.ErrBig}, {"Sub", Sub, s(0, 0), s(-top, top), s(-top, top), api.OK}, {"Sub", Sub, s(-top, -top), s(top, top), big, api.ErrBig},
		{"Mul", Mul, s(1<<30, 1<<30), s(-1<<30, 1<<30), s(-top, top), api.OK}, {"Mul", Mul, s(1<<30, 1<<30), s(-1<<30, 1<<30+1), big, api.ErrBig}, {"Mul", Mul, s(1<<30, 1<<30), s(-1<<30-1, 1<<30), big, api.ErrBig}, {"Mul", Mul, s(-top, -top), s(-1, 1), s(-top, top), api.OK},
		// Products that look small, or negative, in one word.
		{"Mul", Mul, s(1<<32, 1<<32), s(1<<32, 1<<32), big, api.ErrBig}, {"Mul", Mul, s(-1<<32, -1<<32), s(1<<32, 1<<32), big, api.ErrBig}, {"Mul", Mul, s(1<<31, 1<<31), s(1<<32, 1<<32), big, api.ErrBig}, {"Mul", Mul, s(-top, top), s(-top, top), big, api.ErrBig}, {"Mul", Mul, s(top, top), s(-2, -1), big, api.ErrBig},
	} {
		x, e := c.do(c.a, c.b)
		same(t, x, e, c.want, c.wantErr, c.name, c.a, c.b)
	}
}

func TestP3_1OfAll(t *testing.T) {
	second := few(7)
	for _, op := range operations[:3] {
		for _, a := range spans() {
			for _, b := range second {
				want, wantErr := meant(corners(op.number, a, b)...)
				x, e := op.do(a, b)
				same(t, x, e, want, wantErr, op.name, a, b)
			}
		}
	}
}

// refuses checks that an operation checks both spans before anything else. The other span would give ErrZero, ErrBig, or ErrNone.
func refuses(t *testing.T, name string, do func(a, b api.Span) (api.Span, api.Errno)) {
	t.Helper()
	for _, bad := range strangers {
		for _, other := range append([]api.Span{s(0, 0), s(-1, 1), s(top, top), s(-top, -top), s(5, 6)}, strangers...) {
			x, e := do(bad, other)
			same(t, x, e, s(0, 0), api.ErrArg, name, bad, other)
			x, e = do(other, bad)
			same(t, x, e, s(0, 0), api.ErrArg, name, other, bad)
		}
	}
}

func TestP3_1Strangers(t *testing.T) {
	for _, op := range operations[:3] {
		refuses(t, op.name, op.do)
	}
}

func TestP3_2Div(t *testing.T) {
	for _, c := range []struct{ a, b, want api.Span }{
		{s(7, 8), s(-3, -2), s(-4, -2)}, {s(7, 7), s(2, 2), s(3, 4)}, {s(-7, -7), s(2, 2), s(-4, -3)}, {s(7, 7), s(-2, -2), s(-4, -3)}, {s(-7, -7), s(-2, -2), s(3, 4)}, {s(6, 8), s(2, 2), s(3, 4)},
		{s(-2, 3), s(4, 5), s(-1, 1)}, {s(-20, 30), s(2, 5), s(-10, 15)}, {s(-20, 30), s(-5, -2), s(-15, 10)}, {s(20, 30), s(2, 5), s(4, 15)}, {s(-30, -20), s(2, 5), s(-15, -4)}, {s(-30, -20), s(-5, -2), s(4, 15)},
		{s(0, 0), s(1, top), s(0, 0)}, {s(0, 0), s(-top, -1), s(0, 0)}, {s(0, 1), s(3, 3), s(0, 1)}, {s(-1, 0), s(3, 3), s(-1, 0)}, {s(1, 2), s(3, 4), s(0, 1)},
		{s(-top, top), s(1, 1), s(-top, top)}, {s(-top, top), s(-1, -1), s(-top, top)}, {s(-top, top), s(-top, -1), s(-top, top)}, {s(top, top), s(top, top), s(1, 1)},
		{s(top-1, top), s(top, top), s(0, 1)}, {s(top, top), s(top-1, top-1), s(1, 2)}, {s(1, 1), s(top, top), s(0, 1)}, {s(-1, -1), s(top, top), s(-1, 0)}, {s(-1, -1), s(-top, -top), s(0, 1)},
	} {
		x, e := Div(c.a, c.b)
		same(t, x, e, c.want, api.OK, "Div", c.a, c.b)
	}
}

func TestP3_2DivOfAll(t *testing.T) {
	second := few(7)
	for _, a := range spans() {
		for _, b := range second {
			want, wantErr := s(0, 0), api.ErrZero
			if b.Lo > 0 || b.Hi < 0 {
				want, wantErr = meant(corners((*big.Rat).Quo, a, b)...)
			}
			x, e := Div(a, b)
			same(t, x, e, want, wantErr, "Div", a, b)
			if e == api.ErrBig {
				t.Errorf("the quotient of %v and %v has to fit", a, b)
			}
		}
	}
}

func TestP3_2DivErrors(t *testing.T) {
	refuses(t, "Div", Div)
	for _, b := range []api.Span{s(0, 0), s(0, 1), s(-1, 0), s(-1, 1), s(-top, top), s(0, top), s(-top, 0)} {
		for _, a := range few(50) {
			x, e := Div(a, b)
			same(t, x, e, s(0, 0), api.ErrZero, "Div", a, b)
		}
	}
}

// These values lie less than 1 from the limit: below lies 8/9 below it, and above 3/5 above it.
const (
	below, belowNum, belowDen = 17, (9*top - 8) / 17, 9
	above, aboveNum, aboveDen = 19, (5*top + 3) / 19, 5
)

func TestP3_2Times(t *testing.T) {
	for _, c := range []struct {
		a        api.Span
		num, den int
		want     api.Span
	}{
		{s(-1, 1), 5, -3, s(-2, 2)}, {s(10, 20), 1, 3, s(3, 7)}, {s(10, 20), -1, 3, s(-7, -3)}, {s(10, 20), 1, -3, s(-7, -3)}, {s(10, 20), -1, -3, s(3, 7)}, {s(-20, -10), 1, 3, s(-7, -3)}, {s(9, 21), 1, 3, s(3, 7)},
		{s(3, 3), 0, 9, s(0, 0)}, {s(-top, top), 0, -1, s(0, 0)}, {s(0, 0), top, -1, s(0, 0)}, {s(1, 2), 6, 4, s(1, 3)}, {s(2, 4), 6, 4, s(3, 6)}, {s(-1, 2), 1, 2, s(-1, 1)},
		{s(-top, top), top, top, s(-top, top)}, {s(-top, top), -top, top, s(-top, top)}, {s(-top, top), top, -top, s(-top, top)}, {s(-top, top), 1, top, s(-1, 1)}, {s(-1, 1), top, 1, s(-top, top)}, {s(1, 1), 1, -top, s(-1, 0)}, {s(top-1, top-1), top, top - 1, s(top, top)},
		{s(below, below), belowNum, belowDen, s(top-1, top)}, {s(-below, below), belowNum, belowDen, s(-top, top)}, {s(below, below), belowNum, -belowDen, s(-top, 1-top)}, {s(-below, -below), belowNum, belowDen, s(-top, 1-top)},
	} {
		x, e := Times(c.a, c.num, c.den)
		same(t, x, e, c.want, api.OK, "Times", c.a, c.num, c.den)
	}
}

func TestP3_2TimesOfAll(t *testing.T) {
	for _, a := range few(9) {
		for _, num := range ends {
			for _, den := range ends {
				if den == 0 {
					continue
				}
				by := big.NewRat(int64(num), int64(den))
				want, wantErr := meant(new(big.Rat).Mul(exact(a.Lo), by), new(big.Rat).Mul(exact(a.Hi), by))
				x, e := Times(a, num, den)
				same(t, x, e, want, wantErr, "Times", a, num, den)
			}
		}
	}
}

func TestP3_2TimesErrors(t *testing.T) {
	for _, c := range []struct {
		a        api.Span
		num, den int
		want     api.Errno
	}{
		{s(1, 0), 1, 1, api.ErrArg}, {s(1, 0), 1, 0, api.ErrArg}, {s(0, top+1), top + 1, 0, api.ErrArg}, {s(-top-1, 0), top + 1, 1, api.ErrArg}, {s(top+1, top+1), top, 1, api.ErrArg},
		{s(1, 1), 1, 0, api.ErrZero}, {s(0, 0), 0, 0, api.ErrZero}, {s(1, 1), top + 1, 0, api.ErrZero}, {s(top, top), math.MinInt, 0, api.ErrZero},
		{s(1, 1), top + 1, 1, api.ErrRange}, {s(1, 1), -top - 1, 1, api.ErrRange}, {s(1, 1), 1, top + 1, api.ErrRange}, {s(1, 1), 1, -top - 1, api.ErrRange}, {s(0, 0), math.MinInt, 1, api.ErrRange}, {s(0, 0), 0, math.MinInt, api.ErrRange}, {s(top, top), math.MaxInt, 1, api.ErrRange}, {s(top, top), top, math.MaxInt, api.ErrRange},
		{s(top, top), 3, 2, api.ErrBig}, {s(-top, -top), 3, 2, api.ErrBig}, {s(0, top), -3, 2, api.ErrBig}, {s(-top, 0), 3, -2, api.ErrBig}, {s(top, top), top, 1, api.ErrBig}, {s(top, top), top, top - 1, api.ErrBig}, {s(1, 1<<30+1), 1 << 31, 2, api.ErrBig},
		{s(above, above), aboveNum, aboveDen, api.ErrBig}, {s(-above, 0), aboveNum, aboveDen, api.ErrBig}, {s(0, above), aboveNum, -aboveDen, api.ErrBig}, {s(0, above), -aboveNum, -aboveDen, api.ErrBig},
	} {
		x, e := Times(c.a, c.num, c.den)
		same(t, x, e, s(0, 0), c.want, "Times", c.a, c.num, c.den)
	}
	for _, bad := range strangers {
		x, e := Times(bad, 1, 2)
		same(t, x, e, s(0, 0), api.ErrArg, "Times", bad, 1, 2)
	}
}

func TestP3_3HullAndMeet(t *testing.T) {
	none := s(0, 0)
	for _, c := range []struct {
		a, b, hull, meet api.Span
		meetErr          api.Errno
	}{
		{s(1, 2), s(5, 6), s(1, 6), none, api.ErrNone}, {s(1, 5), s(3, 9), s(1, 9), s(3, 5), api.OK}, {s(1, 2), s(2, 3), s(1, 3), s(2, 2), api.OK}, {s(1, 2), s(3, 4), s(1, 4), none, api.ErrNone},
		{s(-4, 4), s(-1, 2), s(-4, 4), s(-1, 2), api.OK}, {s(-4, 4), s(-4, 4), s(-4, 4), s(-4, 4), api.OK}, {s(-4, 4), s(4, 4), s(-4, 4), s(4, 4), api.OK}, {s(0, 0), s(0, 0), s(0, 0), s(0, 0), api.OK}, {s(-1, -1), s(1, 1), s(-1, 1), none, api.ErrNone},
		{s(-top, top), s(0, 1), s(-top, top), s(0, 1), api.OK}, {s(-top, -top), s(top, top), s(-top, top), none, api.ErrNone}, {s(-top, 0), s(0, top), s(-top, top), s(0, 0), api.OK},
	} {
		for _, pair := range [][2]api.Span{{c.a, c.b}, {c.b, c.a}} {
			x, e := Hull(pair[0], pair[1])
			same(t, x, e, c.hull, api.OK, "Hull", pair)
			x, e = Meet(pair[0], pair[1])
			same(t, x, e, c.meet, c.meetErr, "Meet", pair)
		}
	}
	refuses(t, "Hull", Hull)
	refuses(t, "Meet", Meet)
}

// The numbers of a hull, and of a meeting, are counted one by one.
func TestP3_3HullAndMeetOfAllSmall(t *testing.T) {
	for _, a := range small() {
		for _, b := range small() {
			hull, e := Hull(a, b)
			meet, g := Meet(a, b)
			shared := false
			for n := -5; n <= 5; n++ {
				inA, inB := holds(a, n), holds(b, n)
				shared = shared || inA && inB
				if (inA || inB) && !holds(hull, n) {
					t.Errorf("%d of %v or %v is not in %v", n, a, b, hull)
				}
				if g == api.OK && (inA && inB) != holds(meet, n) {
					t.Errorf("%d of %v and %v, and %v", n, a, b, meet)
				}
			}
			for _, end := range []int{hull.Lo, hull.Hi} {
				if !holds(a, end) && !holds(b, end) {
					t.Errorf("Hull(%v, %v) = %v is too wide", a, b, hull)
				}
			}
			if e != api.OK || (g == api.OK) != shared || g != api.OK && g != api.ErrNone {
				t.Errorf("%v and %v: %d and %d", a, b, e, g)
			}
		}
	}
}

func TestP3_3Root(t *testing.T) {
	for _, c := range []struct{ a, want api.Span }{
		{s(2, 17), s(1, 5)}, {s(0, 0), s(0, 0)}, {s(1, 1), s(1, 1)}, {s(0, 1), s(0, 1)}, {s(2, 2), s(1, 2)}, {s(3, 3), s(1, 2)}, {s(4, 4), s(2, 2)}, {s(16, 16), s(4, 4)}, {s(15, 16), s(3, 4)}, {s(15, 17), s(3, 5)}, {s(16, 17), s(4, 5)},
		{s(0, top), s(0, 1<<30)}, {s(top, top), s(1<<30, 1<<30)}, {s(top-1, top-1), s(1<<30-1, 1<<30)}, {s(15, top-1), s(3, 1<<30)}, {s((1<<30-1)*(1<<30-1), (1<<30-1)*(1<<30-1)), s(1<<30-1, 1<<30-1)}, {s((1<<30-1)*(1<<30-1)-1, (1<<30-1)*(1<<30-1)+1), s(1<<30-2, 1<<30)},
	} {
		x, e := Root(c.a)
		same(t, x, e, c.want, api.OK, "Root", c.a)
	}
}

// The ends of a root are compared with the ends of the span by their squares.
func TestP3_3RootOfAll(t *testing.T) {
	list := spans()
	for lo := range 70 {
		for hi := lo; hi < 70; hi++ {
			list = append(list, s(lo, hi))
		}
	}
	for _, a := range list {
		x, e := Root(a)
		if a.Lo < 0 {
			same(t, x, e, s(0, 0), api.ErrRange, "Root", a)
			continue
		}
		least := x.Lo >= 0 && x.Lo*x.Lo <= a.Lo && (x.Lo+1)*(x.Lo+1) > a.Lo
		greatest := x.Hi*x.Hi >= a.Hi && (x.Hi == 0 || (x.Hi-1)*(x.Hi-1) < a.Hi)
		if e != api.OK || !least || !greatest {
			t.Errorf("Root(%v) = %v, %d", a, x, e)
		}
	}
}

func TestP3_3RootErrors(t *testing.T) {
	for _, bad := range strangers {
		x, e := Root(bad)
		same(t, x, e, s(0, 0), api.ErrArg, "Root", bad)
	}
	for _, a := range []api.Span{s(-1, 4), s(-1, -1), s(-1, 0), s(-top, top), s(-top, -top)} {
		x, e := Root(a)
		same(t, x, e, s(0, 0), api.ErrRange, "Root", a)
	}
}

func TestP3_4Of(t *testing.T) {
	for _, c := range []struct {
		a    api.Frac
		unit int
		want api.Span
	}{
		{f(7, 3), 10, s(23, 24)}, {f(-7, 3), 10, s(-24, -23)}, {f(7, 3), 1, s(2, 3)}, {f(-7, 3), 1, s(-3, -2)}, {f(5, 2), 2, s(5, 5)}, {f(-5, 2), 2, s(-5, -5)}, {f(1, 3), 1, s(0, 1)}, {f(-1, 3), 1, s(-1, 0)}, {f(0, 1), 1, s(0, 0)}, {f(0, 1), 1 << 40, s(0, 0)}, {f(4, 1), 3, s(12, 12)},
		{f(top, 1), 1, s(top, top)}, {f(-top, 1), 1, s(-top, -top)}, {f(top, 3), 3, s(top, top)}, {f(1, top), 1, s(0, 1)}, {f(-1, top), 1 << 40, s(-1, 0)}, {f(1<<20, 1), 1 << 40, s(top, top)}, {f(-1<<20, 1), 1 << 40, s(-top, -top)}, {f(top, top-1), 1 << 40, s(1<<40, 1<<40+1)}, {f(top-1, top), 1 << 40, s(1<<40-1, 1<<40)},
		{f(belowNum, belowDen), below, s(top-1, top)}, {f(-belowNum, belowDen), below, s(-top, 1-top)},
	} {
		x, e := Of(c.a, c.unit)
		same(t, x, e, c.want, api.OK, "Of", c.a, c.unit)
	}
}

func TestP3_4OfErrors(t *testing.T) {
	for _, c := range []struct {
		a    api.Frac
		unit int
		want api.Errno
	}{
		{f(0, 0), 1, api.ErrArg}, {f(2, 4), 1, api.ErrArg}, {f(1, -2), 1, api.ErrArg}, {f(0, 2), 0, api.ErrArg}, {f(top+1, 1), 1, api.ErrArg}, {f(1, top+1), 1 << 41, api.ErrArg}, {f(math.MinInt, math.MinInt), -1, api.ErrArg},
		{f(1, 1), 0, api.ErrRange}, {f(1, 1), -1, api.ErrRange}, {f(0, 1), 1<<40 + 1, api.ErrRange}, {f(top, 1), 1<<40 + 1, api.ErrRange}, {f(0, 1), math.MaxInt, api.ErrRange}, {f(top, 1), math.MinInt, api.ErrRange},
		{f(top, 1), 2, api.ErrBig}, {f(-top, 1), 2, api.ErrBig}, {f(top, 1), 1 << 40, api.ErrBig}, {f(1<<20+1, 1), 1 << 40, api.ErrBig}, {f(top, 3), 4, api.ErrBig}, {f(-top, 3), 4, api.ErrBig}, {f(aboveNum, aboveDen), above, api.ErrBig}, {f(-aboveNum, aboveDen), above, api.ErrBig},
	} {
		x, e := Of(c.a, c.unit)
		same(t, x, e, s(0, 0), c.want, "Of", c.a, c.unit)
	}
}

func TestP3_4OfAll(t *testing.T) {
	for _, a := range fractions() {
		for _, unit := range units {
			want, wantErr := meant(new(big.Rat).Mul(big.NewRat(int64(a.Num), int64(a.Den)), exact(unit)))
			x, e := Of(a, unit)
			same(t, x, e, want, wantErr, "Of", a, unit)
		}
	}
}
