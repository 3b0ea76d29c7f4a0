package quadratic

import (
	"math"
	"math/big"
	"slices"

	"loftblock/api"
)

const top = 1 << 60

// f returns a fraction as it stands, valid or not.
func f(num, den int) api.Frac { return api.Frac{Num: num, Den: den} }

func n(i int) api.Frac { return f(i, 1) }

// p returns a piece with integers.
func p(from, a, b, c int) api.Piece3 { return api.Piece3{From: n(from), A: n(a), B: n(b), C: n(c)} }

// example is the curve of the chapter.
func example() api.Curve { return api.Curve{p(0, 4, 0, -1), p(3, -5, 1, 0)} }

// reduced returns the fraction with the value num / den.
func reduced(num, den int) api.Frac { return frac(big.NewRat(int64(num), int64(den))) }

// numbers returns a function that returns one pseudo-random number after the other, always the same ones, from low to high.
func numbers() func(low, high int) int {
	state := uint64(1)
	return func(low, high int) int {
		state = state*6364136223846793005 + 1442695040888963407
		return low + int(state>>3%uint64(high-low+1))
	}
}

// fractionOf returns a fraction of a size: 0 for small ones, 1 for some thousandths, 2 for those up to 2^30, 3 for those up to the limits.
func fractionOf(next func(low, high int) int, size int) api.Frac {
	switch size {
	case 0:
		return reduced(next(-6, 6), next(1, 3))
	case 1:
		return reduced(next(-5000, 5000), next(1, 2)*500)
	case 2:
		return reduced(next(-1<<30, 1<<30), next(1, 1<<30))
	default:
		return reduced(next(-top, top), next(1, top))
	}
}

// curveOf returns a curve with some pieces, whose numbers have a size.
func curveOf(next func(low, high int) int, pieces, size int) api.Curve {
	var c api.Curve
	for len(c) < pieces {
		from := fractionOf(next, size)
		if slices.ContainsFunc(c, func(p api.Piece3) bool { return p.From == from }) {
			continue
		}
		q := api.Piece3{From: from, A: fractionOf(next, size), B: fractionOf(next, size), C: fractionOf(next, size)}
		if next(0, 3) == 0 {
			q.C = n(0)
		}
		c = append(c, q)
	}
	slices.SortFunc(c, func(x, y api.Piece3) int { return exact(x.From).Cmp(exact(y.From)) })
	return c
}

// continued returns a copy of a curve in which each piece goes on where the one before it ends, as far as the numbers fit; with the same slope, if it is smooth.
func continued(c api.Curve, smooth bool) api.Curve {
	c = slices.Clone(c)
	if smooth {
		c[0].B = n(0)
	}
	for i := range c[1:] {
		var m meter
		value, slope := m.pieceValue(c[i], c[i+1].From), m.pieceSlope(c[i], c[i+1].From)
		if m.big {
			return c[:i+1]
		}
		c[i+1].A = frac(value)
		if smooth {
			c[i+1].B = frac(slope)
		}
	}
	return c
}

// rooted returns a curve of one piece with two roots since its From, in thousandths, and a C in thirds, lifted by lift.
func rooted(next func(low, high int) int, lift api.Frac) api.Curve {
	from, r, s, c := reduced(next(-3000, 3000), 1000), reduced(next(-50, 2000), 1000), reduced(next(-50, 2000), 1000), reduced(next(-9, 9), 3)
	if next(0, 2) == 0 {
		s = r
	}
	var m meter
	a := m.add(m.mul(exact(c), m.mul(exact(r), exact(s))), exact(lift))
	b := m.mul(exact(c), m.add(exact(r), exact(s)))
	return api.Curve{{From: from, A: frac(a), B: frac(b.Neg(b)), C: c}}
}

// curves returns valid curves of all sizes, some with jumps, some continuous, and some smooth.
func curves() []api.Curve {
	next := numbers()
	list := []api.Curve{example(), {p(0, 0, 0, 0)}, {p(5, -1, 2, 0)}}
	for size := range 4 {
		for pieces := 1; pieces <= 6; pieces++ {
			for range 6 {
				c := curveOf(next, pieces, size)
				list = append(list, c, continued(c, false), continued(c, true))
			}
		}
	}
	for range 60 {
		list = append(list, rooted(next, n(0)), rooted(next, f(1, 1<<20)), rooted(next, f(-1, 1<<20)))
	}
	return append(list, curveOf(next, api.MaxKnots, 1), curveOf(next, 30, 2), continued(curveOf(next, 40, 1), true))
}

// few returns some of the curves.
func few(step int) []api.Curve {
	var list []api.Curve
	for i, c := range curves() {
		if i%step == 0 {
			list = append(list, c)
		}
	}
	return list
}

// moments returns times for a curve: where its first pieces begin, between them, and around all of them.
func moments(c api.Curve) []api.Frac {
	first, last := exact(c[0].From), exact(c[len(c)-1].From)
	var list []api.Frac
	add := func(r *big.Rat) {
		if t := frac(r); fits(r) && !slices.Contains(list, t) {
			list = append(list, t)
		}
	}
	for _, r := range []*big.Rat{big.NewRat(1, 1000), big.NewRat(2, 3), big.NewRat(1, 1), big.NewRat(7, 2)} {
		add(new(big.Rat).Sub(first, r))
		add(new(big.Rat).Add(last, r))
	}
	for i, p := range c[:min(len(c), 4)] {
		add(exact(p.From))
		if i+1 < len(c) {
			middle := new(big.Rat).Add(exact(p.From), exact(c[i+1].From))
			add(middle.Quo(middle, big.NewRat(2, 1)))
		}
	}
	for _, t := range []api.Frac{n(0), f(1, 3), n(1 << 31), f(1, top), n(-top), f(top, top-1)} {
		add(exact(t))
	}
	return list
}

// spans returns the pairs of moments of which the first one is not greater than the second one.
func spans(c api.Curve) [][2]api.Frac {
	var list [][2]api.Frac
	for _, from := range moments(c) {
		for _, to := range moments(c) {
			if !before(to, from) {
				list = append(list, [2]api.Frac{from, to})
			}
		}
	}
	return list
}

// strangers are no fractions.
var strangers = []api.Frac{
	{}, f(1, 0), f(2, 4), f(0, 2), f(1, -1), f(top+1, 1), f(-top-1, 1), f(1, top+1), f(math.MinInt, 1), f(1, math.MinInt), f(math.MaxInt, math.MaxInt),
}

// wrong are curves that are not valid.
func wrong() []api.Curve {
	list := []api.Curve{
		nil, {}, {p(1, 0, 0, 0), p(1, 0, 0, 0)}, {p(1, 0, 0, 0), p(0, 0, 0, 0)}, {p(0, 1, 0, 0), p(2, 1, 0, 0), p(1, 1, 0, 0)},
		{{From: f(1, 2), A: n(0), B: n(0), C: n(0)}, {From: f(1, 3), A: n(0), B: n(0), C: n(0)}},
		curveOf(numbers(), api.MaxKnots+1, 1), make(api.Curve, api.MaxKnots+1), make(api.Curve, 1),
	}
	for _, s := range strangers {
		for i := range 2 {
			a, b, c, d := example(), example(), example(), example()
			a[i].From, b[i].A, c[i].B, d[i].C = s, s, s, s
			list = append(list, a, b, c, d)
		}
	}
	return list
}
