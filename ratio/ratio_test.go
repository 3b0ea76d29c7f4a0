package ratio

import (
	"math"
	"math/big"
	"slices"
	"testing"

	"loftblock/api"
)

const limit = 1 << 60

// f returns a fraction as it stands, valid or not.
func f(num, den int) api.Frac { return api.Frac{Num: num, Den: den} }

func exact(a api.Frac) *big.Rat { return big.NewRat(int64(a.Num), int64(a.Den)) }

// meant returns the fraction with an exact value, or ErrBig, by the definition of the chapter, with package math/big.
func meant(r *big.Rat) (api.Frac, api.Errno) {
	most := big.NewInt(limit)
	if r.Num().CmpAbs(most) > 0 || r.Denom().Cmp(most) > 0 {
		return api.Frac{}, api.ErrBig
	}
	return f(int(r.Num().Int64()), int(r.Denom().Int64())), api.OK
}

// sizes are numbers from 1 to the limit, among them some with products near it, primes, and numbers with many divisors.
var sizes = []int{
	1, 2, 3, 4, 5, 6, 7, 10, 12, 15, 30, 35, 1000003, 1 << 20, 1<<30 - 1, 1 << 30, 1<<30 + 1, 1 << 31, 1<<32 + 1, 3 << 40, 1 << 58,
	870 * 870 * 870 * 870 * 870 * 870, 1<<59 - 1, 1 << 59, 1<<59 + 1, 3486784401 * 300000000, limit - 93, limit - 6, limit - 2, limit - 1, limit,
}

// fractions returns valid fractions of all sizes, and of both signs.
func fractions() []api.Frac {
	list := []api.Frac{f(0, 1)}
	for _, num := range sizes {
		for _, den := range sizes {
			if exact(f(num, den)).Num().Int64() == int64(num) {
				list = append(list, f(num, den), f(-num, den))
			}
		}
	}
	return list
}

// few returns some of the fractions, for tests with all pairs or triples.
func few(step int) []api.Frac {
	list := []api.Frac{f(0, 1), f(1, 1), f(-1, 1), f(limit, 1), f(-limit, 1), f(1, limit), f(-1, limit), f(limit-1, limit), f(1, 6), f(1, 10), f(-3, 2), f(3, 4)}
	for i, a := range fractions() {
		if i%step == 0 {
			list = append(list, a)
		}
	}
	return list
}

// strangers are no fractions: because of a sign, a common divisor, or a limit.
var strangers = []api.Frac{
	{}, f(1, 0), f(-1, 0), f(0, -1), f(1, -1), f(-1, -1), f(1, -2), f(3, -limit),
	f(0, 2), f(0, limit), f(2, 2), f(2, 4), f(-2, 4), f(6, 3), f(21, 35), f(limit, limit), f(-limit, 2),
	f(limit+1, 1), f(-limit-1, 1), f(1, limit+1), f(-1, limit+1), f(limit+1, limit), f(limit, limit+1), f(limit+1, limit+3),
	f(math.MaxInt, 1), f(math.MinInt, 1), f(math.MinInt+1, 1), f(1, math.MaxInt), f(1, math.MinInt), f(0, math.MinInt),
	f(math.MinInt, 0), f(math.MaxInt, math.MinInt), f(math.MinInt, math.MinInt), f(math.MinInt, math.MaxInt),
}

// operations make one fraction of two.
var operations = []struct {
	name  string
	do    func(a, b api.Frac) (api.Frac, api.Errno)
	exact func(z, a, b *big.Rat) *big.Rat
}{
	{"Add", Add, (*big.Rat).Add}, {"Sub", Sub, (*big.Rat).Sub}, {"Mul", Mul, (*big.Rat).Mul}, {"Div", Div, (*big.Rat).Quo},
}

func TestP2_1Valid(t *testing.T) {
	for _, a := range fractions() {
		if !Valid(a) {
			t.Errorf("Valid(%v) is false", a)
		}
	}
	for _, a := range strangers {
		if Valid(a) {
			t.Errorf("Valid(%v) is true", a)
		}
	}
	for num := -40; num <= 40; num++ {
		for den := -40; den <= 40; den++ {
			want := den > 0 && exact(f(num, den)).Denom().Int64() == int64(den)
			if Valid(f(num, den)) != want {
				t.Errorf("Valid(%d/%d) is not %t", num, den, want)
			}
		}
	}
}

func TestP2_1Make(t *testing.T) {
	for _, c := range []struct {
		num, den int
		want     api.Frac
	}{
		{0, 1, f(0, 1)}, {0, 7, f(0, 1)}, {0, -7, f(0, 1)}, {0, math.MinInt, f(0, 1)}, {0, math.MaxInt, f(0, 1)},
		{6, 4, f(3, 2)}, {-6, 4, f(-3, 2)}, {6, -4, f(-3, 2)}, {-6, -4, f(3, 2)}, {3, 3, f(1, 1)}, {1, 2, f(1, 2)}, {12, -4, f(-3, 1)},
		{limit, 1, f(limit, 1)}, {limit, -1, f(-limit, 1)}, {1, limit, f(1, limit)}, {-1, -limit, f(1, limit)}, {limit, limit - 1, f(limit, limit-1)},
		{limit + 1, 17, f((limit+1)/17, 1)}, {17, limit + 1, f(1, (limit+1)/17)}, {2 * limit, 2 * (limit - 1), f(limit, limit-1)},
		{math.MaxInt, math.MaxInt, f(1, 1)}, {math.MinInt, math.MinInt, f(1, 1)}, {math.MaxInt, -math.MaxInt, f(-1, 1)},
		{math.MinInt, 8, f(-limit, 1)}, {math.MinInt, -8, f(limit, 1)}, {8, math.MinInt, f(-1, limit)}, {-8, math.MinInt, f(1, limit)}, {24, math.MinInt, f(-3, limit)},
	} {
		if a, e := Make(c.num, c.den); a != c.want || e != api.OK {
			t.Errorf("Make(%d, %d) = %v, %d; want %v", c.num, c.den, a, e, c.want)
		}
	}
}

func TestP2_1MakeErrors(t *testing.T) {
	for _, num := range []int{0, 1, -7, limit, limit + 1, math.MaxInt, math.MinInt} {
		if a, e := Make(num, 0); a != f(0, 0) || e != api.ErrZero {
			t.Errorf("Make(%d, 0) = %v, %d; want ErrZero", num, a, e)
		}
	}
	for _, c := range [][2]int{
		{limit + 1, 1}, {-limit - 1, 1}, {limit + 1, -1}, {1, limit + 1}, {1, -limit - 1}, {limit + 1, limit}, {limit, limit + 1}, {2 * (limit + 1), 2},
		{math.MaxInt, 1}, {math.MinInt, 1}, {math.MinInt, -1}, {math.MinInt, 4}, {1, math.MinInt}, {-1, math.MinInt}, {4, math.MinInt}, {math.MaxInt, math.MinInt}, {math.MinInt, math.MaxInt},
	} {
		if a, e := Make(c[0], c[1]); a != f(0, 0) || e != api.ErrBig {
			t.Errorf("Make(%d, %d) = %v, %d; want ErrBig", c[0], c[1], a, e)
		}
	}
}

func TestP2_1MakeOfAll(t *testing.T) {
	list := []int{0, math.MinInt, math.MinInt + 1, math.MaxInt, math.MaxInt - 1}
	for _, n := range sizes {
		list = append(list, n, -n, n+limit, -n-limit, 6*n)
	}
	for _, num := range list {
		for _, den := range list {
			if den == 0 {
				continue
			}
			want, wantErr := meant(big.NewRat(int64(num), int64(den)))
			if a, e := Make(num, den); a != want || e != wantErr {
				t.Errorf("Make(%d, %d) = %v, %d; want %v, %d", num, den, a, e, want, wantErr)
			}
		}
	}
}

func TestP2_2Examples(t *testing.T) {
	for _, c := range []struct{ a, b, sum, difference, product, quotient api.Frac }{
		{f(1, 6), f(1, 10), f(4, 15), f(1, 15), f(1, 60), f(5, 3)},
		{f(-1, 6), f(1, 10), f(-1, 15), f(-4, 15), f(-1, 60), f(-5, 3)},
		{f(3, 4), f(-1, 4), f(1, 2), f(1, 1), f(-3, 16), f(-3, 1)},
		{f(0, 1), f(-2, 3), f(-2, 3), f(2, 3), f(0, 1), f(0, 1)},
		{f(2, 3), f(2, 3), f(4, 3), f(0, 1), f(4, 9), f(1, 1)},
		{f(-2, 3), f(2, 3), f(0, 1), f(-4, 3), f(-4, 9), f(-1, 1)},
	} {
		for i, want := range []api.Frac{c.sum, c.difference, c.product, c.quotient} {
			if x, e := operations[i].do(c.a, c.b); x != want || e != api.OK {
				t.Errorf("%s(%v, %v) = %v, %d; want %v", operations[i].name, c.a, c.b, x, e, want)
			}
		}
	}
}

// Results that just fit, and ones that just do not.
func TestP2_2Limits(t *testing.T) {
	none := api.Frac{}
	for _, c := range []struct {
		do         func(a, b api.Frac) (api.Frac, api.Errno)
		a, b, want api.Frac
	}{
		{Add, f(limit-1, 1), f(1, 1), f(limit, 1)}, {Add, f(limit, 1), f(1, 1), none}, {Add, f(limit, 1), f(-1, limit), none},
		{Add, f(limit-1, limit), f(1, limit), f(1, 1)}, {Add, f(1, limit), f(1, limit), f(1, limit/2)}, {Add, f(1, limit), f(1, limit-1), none},
		{Add, f(1, 3<<58), f(5, 3<<58), f(1, 1<<57)}, {Add, f(limit-1, limit), f(limit-1, limit), f(limit-1, limit/2)},
		{Sub, f(-limit+1, 1), f(1, 1), f(-limit, 1)}, {Sub, f(-limit, 1), f(1, 1), none}, {Sub, f(limit, 1), f(limit, 1), f(0, 1)}, {Sub, f(1, limit), f(1, limit), f(0, 1)},
		{Mul, f(limit, 1), f(1, limit), f(1, 1)}, {Mul, f(-limit, limit-1), f(limit-1, limit), f(-1, 1)}, {Mul, f(1<<30, 1), f(-1<<30, 1), f(-limit, 1)}, {Mul, f(1<<30, 1), f(1<<30+1, 1), none},
		{Mul, f(1, 1<<30), f(1, 1<<30), f(1, limit)}, {Mul, f(1, 1<<30), f(1, 1<<30+1), none}, {Mul, f(1<<32, 1), f(1<<32, 1), none}, {Mul, f(1, 1<<32), f(1, 1<<32), none},
		{Div, f(limit, 1), f(-limit, 1), f(-1, 1)}, {Div, f(1, limit), f(limit, 1), none}, {Div, f(1, 1), f(-1, limit), f(-limit, 1)}, {Div, f(1, 1), f(-limit, 1), f(-1, limit)}, {Div, f(2, 1), f(1, limit), none},
	} {
		x, e := c.do(c.a, c.b)
		if x != c.want || (e == api.OK) != (c.want != none) || e != api.OK && e != api.ErrBig {
			t.Errorf("%v, %v: %v, %d; want %v", c.a, c.b, x, e, c.want)
		}
	}
}

func TestP2_2OfAll(t *testing.T) {
	second := few(11)
	for _, op := range operations {
		for _, a := range fractions() {
			for _, b := range second {
				if op.name == "Div" && b.Num == 0 {
					continue
				}
				want, wantErr := meant(op.exact(new(big.Rat), exact(a), exact(b)))
				if x, e := op.do(a, b); x != want || e != wantErr {
					t.Errorf("%s(%v, %v) = %v, %d; want %v, %d", op.name, a, b, x, e, want, wantErr)
				}
			}
		}
	}
}

func TestP2_2OfAllSmall(t *testing.T) {
	var small []api.Frac
	for num := -12; num <= 12; num++ {
		for den := 1; den <= 12; den++ {
			if a := f(num, den); Valid(a) {
				small = append(small, a)
			}
		}
	}
	for _, op := range operations {
		for _, a := range small {
			for _, b := range small {
				if op.name == "Div" && b.Num == 0 {
					continue
				}
				want, _ := meant(op.exact(new(big.Rat), exact(a), exact(b)))
				if x, e := op.do(a, b); x != want || e != api.OK {
					t.Errorf("%s(%v, %v) = %v, %d; want %v", op.name, a, b, x, e, want)
				}
			}
		}
	}
}

func TestP2_2Errors(t *testing.T) {
	for _, op := range operations {
		for _, bad := range strangers {
			// The zero and the limit would be other errors, if they were looked at first.
			for _, other := range append([]api.Frac{f(1, 2), f(0, 1), f(limit, 1), f(-1, limit)}, strangers...) {
				if x, e := op.do(bad, other); x != f(0, 0) || e != api.ErrArg {
					t.Errorf("%s(%v, %v) = %v, %d; want ErrArg", op.name, bad, other, x, e)
				}
				if x, e := op.do(other, bad); x != f(0, 0) || e != api.ErrArg {
					t.Errorf("%s(%v, %v) = %v, %d; want ErrArg", op.name, other, bad, x, e)
				}
			}
		}
	}
	for _, a := range few(50) {
		if x, e := Div(a, f(0, 1)); x != f(0, 0) || e != api.ErrZero {
			t.Errorf("Div(%v, 0) = %v, %d; want ErrZero", a, x, e)
		}
	}
}

func TestP2_3Cmp(t *testing.T) {
	for _, c := range []struct {
		a, b api.Frac
		want int
	}{
		{f(0, 1), f(0, 1), 0}, {f(1, 2), f(1, 3), 1}, {f(-1, 2), f(-1, 3), -1}, {f(-1, 2), f(1, 3), -1}, {f(1, 2), f(-1, 3), 1}, {f(-3, 4), f(-3, 4), 0},
		{f(limit, 1), f(-limit, 1), 1}, {f(-limit, 1), f(limit, 1), -1}, {f(1, limit), f(0, 1), 1}, {f(-1, limit), f(0, 1), -1}, {f(0, 1), f(1, limit), -1},
		{f(limit-1, limit), f(1, 1), -1}, {f(limit, limit-1), f(1, 1), 1}, {f(limit-1, limit), f(limit-2, limit-1), 1}, {f(1-limit, limit), f(2-limit, limit-1), -1},
	} {
		if n, e := Cmp(c.a, c.b); n != c.want || e != api.OK {
			t.Errorf("Cmp(%v, %v) = %d, %d; want %d", c.a, c.b, n, e, c.want)
		}
	}
	second := few(11)
	for _, a := range fractions() {
		for _, b := range second {
			if n, e := Cmp(a, b); n != exact(a).Cmp(exact(b)) || e != api.OK {
				t.Errorf("Cmp(%v, %v) = %d, %d", a, b, n, e)
			}
		}
	}
}

func TestP2_3FloorAndCeil(t *testing.T) {
	for _, c := range []struct {
		a           api.Frac
		floor, ceil int
	}{
		{f(0, 1), 0, 0}, {f(6, 1), 6, 6}, {f(-6, 1), -6, -6}, {f(7, 2), 3, 4}, {f(-7, 2), -4, -3}, {f(1, 3), 0, 1}, {f(-1, 3), -1, 0}, {f(2, 3), 0, 1}, {f(-2, 3), -1, 0}, {f(8, 3), 2, 3},
		{f(limit, 1), limit, limit}, {f(-limit, 1), -limit, -limit}, {f(1, limit), 0, 1}, {f(-1, limit), -1, 0}, {f(limit-1, limit), 0, 1}, {f(1-limit, limit), -1, 0}, {f(limit-1, 2), limit/2 - 1, limit / 2}, {f(1-limit, 2), -limit / 2, 1 - limit/2},
	} {
		floor, floorErr := Floor(c.a)
		ceil, ceilErr := Ceil(c.a)
		if floor != c.floor || ceil != c.ceil || floorErr != api.OK || ceilErr != api.OK {
			t.Errorf("%v lies between %d, %d and %d, %d; want %d and %d", c.a, floor, floorErr, ceil, ceilErr, c.floor, c.ceil)
		}
	}
}

func TestP2_3Errors(t *testing.T) {
	for _, bad := range strangers {
		for _, other := range append([]api.Frac{f(1, 2), f(0, 1)}, strangers...) {
			if n, e := Cmp(bad, other); n != 0 || e != api.ErrArg {
				t.Errorf("Cmp(%v, %v) = %d, %d; want ErrArg", bad, other, n, e)
			}
			if n, e := Cmp(other, bad); n != 0 || e != api.ErrArg {
				t.Errorf("Cmp(%v, %v) = %d, %d; want ErrArg", other, bad, n, e)
			}
		}
		if n, e := Floor(bad); n != 0 || e != api.ErrArg {
			t.Errorf("Floor(%v) = %d, %d; want ErrArg", bad, n, e)
		}
		if n, e := Ceil(bad); n != 0 || e != api.ErrArg {
			t.Errorf("Ceil(%v) = %d, %d; want ErrArg", bad, n, e)
		}
	}
}

func TestP2_4Sum(t *testing.T) {
	for _, c := range []struct {
		list []api.Frac
		want api.Frac
	}{
		{nil, f(0, 1)}, {[]api.Frac{}, f(0, 1)}, {[]api.Frac{f(-3, 7)}, f(-3, 7)}, {[]api.Frac{f(limit, 1)}, f(limit, 1)}, {[]api.Frac{f(1, 2), f(1, 3), f(1, 6)}, f(1, 1)},
		{[]api.Frac{f(1, 6), f(1, 10), f(-4, 15)}, f(0, 1)}, {[]api.Frac{f(limit, 1), f(-1, 1), f(1, 1)}, f(limit, 1)}, {[]api.Frac{f(limit, 1), f(-limit, 1), f(1, limit)}, f(1, limit)},
		{slices.Repeat([]api.Frac{f(1, 3)}, api.MaxList), f(api.MaxList, 3)},
	} {
		given := slices.Clone(c.list)
		if a, e := Sum(c.list); a != c.want || e != api.OK {
			t.Errorf("Sum(%v) = %v, %d; want %v", c.list, a, e, c.want)
		}
		if !slices.Equal(given, c.list) {
			t.Errorf("Sum changed %v to %v", given, c.list)
		}
	}
}

func TestP2_4SumErrors(t *testing.T) {
	long := slices.Repeat([]api.Frac{f(1, 1)}, api.MaxList+1)
	wide := slices.Repeat([]api.Frac{f(limit, 1)}, api.MaxList+1)
	for _, c := range []struct {
		list []api.Frac
		want api.Errno
	}{
		{long, api.ErrFull}, {wide, api.ErrFull}, {append(slices.Clone(long), f(2, 4)), api.ErrArg}, {append([]api.Frac{{}}, long...), api.ErrArg}, {slices.Repeat([]api.Frac{{}}, 2*api.MaxList), api.ErrArg},
		{wide[:2], api.ErrBig}, {wide[:api.MaxList], api.ErrBig}, {[]api.Frac{f(limit, 1), f(1, 1), f(-1, 1)}, api.ErrBig}, {[]api.Frac{f(-limit, 1), f(-1, 1), f(1, 1)}, api.ErrBig},
		{[]api.Frac{f(limit, 1), f(1, limit), f(-limit, 1)}, api.ErrBig}, {[]api.Frac{f(limit, 1), f(limit, 1), f(1, 0)}, api.ErrArg},
	} {
		if a, e := Sum(c.list); a != f(0, 0) || e != c.want {
			t.Errorf("Sum of %d fractions = %v, %d; want %d", len(c.list), a, e, c.want)
		}
	}
	for _, bad := range strangers {
		for at := range 3 {
			list := slices.Insert([]api.Frac{f(1, 2), f(0, 1)}, at, bad)
			if a, e := Sum(list); a != f(0, 0) || e != api.ErrArg {
				t.Errorf("Sum(%v) = %v, %d; want ErrArg", list, a, e)
			}
		}
	}
}
