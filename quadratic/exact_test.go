package quadratic

import (
	"math/big"
	"slices"

	"loftblock/api"
)

// meter calculates with exact numbers, and notes whether one does not fit.
type meter struct{ big bool }

func (m *meter) seen(r *big.Rat) *big.Rat {
	m.big = m.big || !fits(r)
	return r
}

func (m *meter) add(a, b *big.Rat) *big.Rat { return m.seen(new(big.Rat).Add(a, b)) }

func (m *meter) sub(a, b *big.Rat) *big.Rat { return m.seen(new(big.Rat).Sub(a, b)) }

func (m *meter) mul(a, b *big.Rat) *big.Rat { return m.seen(new(big.Rat).Mul(a, b)) }

func (m *meter) div(a, b *big.Rat) *big.Rat { return m.seen(new(big.Rat).Quo(a, b)) }

// result returns a number as a fraction, or ErrBig.
func (m *meter) result(r *big.Rat) (api.Frac, api.Errno) {
	if m.big {
		return api.Frac{}, api.ErrBig
	}
	return frac(r), api.OK
}

func fits(r *big.Rat) bool {
	return r.Num().CmpAbs(big.NewInt(top)) <= 0 && r.Denom().Cmp(big.NewInt(top)) <= 0
}

func exact(a api.Frac) *big.Rat { return big.NewRat(int64(a.Num), int64(a.Den)) }

func frac(r *big.Rat) api.Frac {
	return f(int(r.Num().Int64()), int(r.Denom().Int64()))
}

func before(a, b api.Frac) bool { return exact(a).Cmp(exact(b)) < 0 }

// indexOf returns the index of the piece at a time, or -1, piece by piece.
func indexOf(c api.Curve, t api.Frac) int {
	at := -1
	for i, p := range c {
		if !before(t, p.From) {
			at = i
		}
	}
	return at
}

// height returns A + ((B + (C u)) u).
func (m *meter) height(p api.Piece3, u *big.Rat) *big.Rat {
	return m.add(exact(p.A), m.mul(m.add(exact(p.B), m.mul(exact(p.C), u)), u))
}

func (m *meter) pieceValue(p api.Piece3, t api.Frac) *big.Rat {
	return m.height(p, m.sub(exact(t), exact(p.From)))
}

func (m *meter) pieceSlope(p api.Piece3, t api.Frac) *big.Rat {
	u := m.sub(exact(t), exact(p.From))
	return m.add(exact(p.B), m.mul(big.NewRat(2, 1), m.mul(exact(p.C), u)))
}

func (m *meter) valueOf(c api.Curve, t api.Frac) *big.Rat {
	if i := indexOf(c, t); i >= 0 {
		return m.pieceValue(c[i], t)
	}
	return exact(c[0].A)
}

func (m *meter) slopeOf(c api.Curve, t api.Frac) *big.Rat {
	if i := indexOf(c, t); i >= 0 {
		return m.pieceSlope(c[i], t)
	}
	return new(big.Rat)
}

func bendOf(c api.Curve, t api.Frac) *big.Rat {
	if i := indexOf(c, t); i >= 0 {
		return exact(c[i].C)
	}
	return new(big.Rat)
}

// joinedBy returns the sum, or the difference, by the definition of the chapter.
func joinedBy(a, b api.Curve, join func(m *meter, x, y *big.Rat) *big.Rat) (api.Curve, api.Errno) {
	times := timesOf(a, b)
	if len(times) > 200 {
		return nil, api.ErrFull
	}
	var m meter
	var c api.Curve
	for _, t := range times {
		x := join(&m, m.valueOf(a, t), m.valueOf(b, t))
		y := join(&m, m.slopeOf(a, t), m.slopeOf(b, t))
		z := join(&m, bendOf(a, t), bendOf(b, t))
		if m.big {
			return nil, api.ErrBig
		}
		c = append(c, api.Piece3{From: t, A: frac(x), B: frac(y), C: frac(z)})
	}
	return c, api.OK
}

// timesOf returns all From of both curves, ascending, each once.
func timesOf(a, b api.Curve) []api.Frac {
	var times []api.Frac
	for _, p := range append(slices.Clone(a), b...) {
		if !slices.Contains(times, p.From) {
			times = append(times, p.From)
		}
	}
	slices.SortFunc(times, func(x, y api.Frac) int { return exact(x).Cmp(exact(y)) })
	return times
}

// leastBy returns the least value by the definition of the chapter: of all values that it names.
func leastBy(c api.Curve, from, to api.Frac) (api.Frac, api.Errno) {
	var m meter
	values := []*big.Rat{m.valueOf(c, from), m.valueOf(c, to)}
	for i, p := range c {
		if !before(from, p.From) || before(to, p.From) {
			continue
		}
		values = append(values, m.valueOf(c, p.From))
		if i > 0 {
			values = append(values, m.pieceValue(c[i-1], p.From))
		} else {
			values = append(values, exact(p.A))
		}
	}
	for i, p := range c {
		begin, end, is := partOf(c, i, from, to)
		if !is || p.C.Num <= 0 {
			continue
		}
		v := m.div(new(big.Rat).Neg(exact(p.B)), m.mul(big.NewRat(2, 1), exact(p.C)))
		if v.Cmp(m.sub(exact(begin), exact(p.From))) > 0 && v.Cmp(m.sub(exact(end), exact(p.From))) < 0 {
			values = append(values, m.height(p, v))
		}
	}
	return m.result(slices.MinFunc(values, (*big.Rat).Cmp))
}

// partOf returns between which times, of those from one to another, a piece is the piece, and whether there is one.
func partOf(c api.Curve, i int, from, to api.Frac) (begin, end api.Frac, is bool) {
	begin, end = from, to
	if before(begin, c[i].From) {
		begin = c[i].From
	}
	is = !before(to, begin)
	if i+1 < len(c) {
		is = is && before(begin, c[i+1].From)
		if before(c[i+1].From, end) {
			end = c[i+1].From
		}
	}
	return begin, end, is
}

// surd is (p + root n) / d, or (p - root n) / d if it is minus, with a positive d, and an n that is not negative.
type surd struct {
	p, n, d *big.Int
	minus   bool
}

// surdOf returns p + q root n.
func surdOf(p, q, n *big.Rat) surd {
	square := new(big.Rat).Mul(new(big.Rat).Mul(q, q), n)
	d := new(big.Int).Mul(p.Denom(), square.Denom())
	scale := new(big.Rat).SetInt(d)
	whole := new(big.Rat).Mul(p, scale)
	under := new(big.Rat).Mul(square, new(big.Rat).Mul(scale, scale))
	return surd{whole.Num(), under.Num(), d, q.Sign() < 0}
}

// span returns the least span of integers around a surd.
func (s surd) span() api.Span {
	root := new(big.Int).Sqrt(s.n)
	above := new(big.Int).Set(root)
	if new(big.Int).Mul(root, root).Cmp(s.n) != 0 {
		above.Add(above, big.NewInt(1))
	}
	low, high := new(big.Int).Add(s.p, root), new(big.Int).Add(s.p, above)
	if s.minus {
		low, high = new(big.Int).Sub(s.p, above), new(big.Int).Sub(s.p, root)
	}
	return api.Span{Lo: floorOf(low, s.d), Hi: -floorOf(high.Neg(high), s.d)}
}

// floorOf returns n / d rounded down.
func floorOf(n, d *big.Int) int { return int(new(big.Int).Div(n, d).Int64()) }

// cmp compares a surd with a rational number.
func (s surd) cmp(r *big.Rat) int {
	// Root n, or less root n, is compared with r d - p.
	rest := new(big.Rat).Mul(r, new(big.Rat).SetInt(s.d))
	rest.Sub(rest, new(big.Rat).SetInt(s.p))
	square := new(big.Rat).Mul(rest, rest).Cmp(new(big.Rat).SetInt(s.n))
	switch {
	case !s.minus && rest.Sign() < 0:
		return 1
	case s.minus && rest.Sign() > 0:
		return -1
	case s.minus:
		return square
	default:
		return -square
	}
}

// firstBy returns the first time below zero by the roots of the pieces.
func firstBy(c api.Curve, from, to api.Frac) (api.Span, api.Errno) {
	if before(from, c[0].From) && c[0].A.Num < 0 {
		return thousand(exact(from)), api.OK
	}
	for i, p := range c {
		begin, end, is := partOf(c, i, from, to)
		if !is {
			continue
		}
		if at, is := rootOf(p, exact(begin), exact(end)); is {
			return at, api.OK
		}
	}
	return api.Span{}, api.ErrNone
}

// rootOf returns where the values of a piece become less than 0 between two times, and whether they do.
func rootOf(p api.Piece3, begin, end *big.Rat) (api.Span, bool) {
	var m meter
	a, b, c, start := exact(p.A), exact(p.B), exact(p.C), exact(p.From)
	u := m.sub(begin, start)
	if m.height(p, u).Sign() < 0 {
		return thousand(begin), true
	}
	if c.Sign() == 0 {
		if b.Sign() >= 0 {
			return api.Span{}, false
		}
		t := m.sub(start, m.div(a, b))
		return thousand(t), t.Cmp(end) < 0
	}
	under := m.sub(m.mul(b, b), m.mul(m.mul(big.NewRat(4, 1), a), c))
	if under.Sign() < 0 || under.Sign() == 0 && c.Sign() > 0 {
		return api.Span{}, false
	}
	// The lower root of a curve that is bent upwards, the higher one of the others.
	half := m.div(big.NewRat(1, 2), c)
	middle := m.sub(start, m.mul(b, half))
	t := surdOf(middle, new(big.Rat).Neg(half), under)
	if t.cmp(begin) < 0 || t.cmp(end) >= 0 {
		return api.Span{}, false
	}
	kilo := big.NewRat(1000, 1)
	return surdOf(m.mul(middle, kilo), m.mul(new(big.Rat).Neg(half), kilo), under).span(), true
}

// thousand returns the least span around 1000 times a number.
func thousand(r *big.Rat) api.Span {
	return surdOf(new(big.Rat).Mul(r, big.NewRat(1000, 1)), new(big.Rat), new(big.Rat)).span()
}
