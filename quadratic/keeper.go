package quadratic

import (
	"loftblock/api"
	"loftblock/ratio"
)

// keeper calculates with fractions and keeps the first error. What it returns after an error has no meaning.
type keeper struct{ err api.Errno }

func (k *keeper) keep(a api.Frac, err api.Errno) api.Frac {
	if k.err == api.OK {
		k.err = err
	}
	return a
}

func (k *keeper) add(a, b api.Frac) api.Frac { return k.keep(ratio.Add(a, b)) }

func (k *keeper) sub(a, b api.Frac) api.Frac { return k.keep(ratio.Sub(a, b)) }

func (k *keeper) mul(a, b api.Frac) api.Frac { return k.keep(ratio.Mul(a, b)) }

func (k *keeper) div(a, b api.Frac) api.Frac { return k.keep(ratio.Div(a, b)) }

// result returns a, or the error that was kept.
func (k *keeper) result(a api.Frac) (api.Frac, api.Errno) {
	if k.err != api.OK {
		return api.Frac{}, k.err
	}
	return a, api.OK
}

// height returns the value of a piece at the time u since its From.
func (k *keeper) height(p api.Piece3, u api.Frac) api.Frac {
	return k.add(p.A, k.mul(k.add(p.B, k.mul(p.C, u)), u))
}

// value returns the value of a piece at a time, as if no other piece came before it.
func (k *keeper) value(p api.Piece3, t api.Frac) api.Frac {
	return k.height(p, k.sub(t, p.From))
}

// slope returns the slope of a piece at a time, as if no other piece came before it.
func (k *keeper) slope(p api.Piece3, t api.Frac) api.Frac {
	return k.add(p.B, k.mul(whole(2), k.mul(p.C, k.sub(t, p.From))))
}

// restarted returns the piece from a time on that goes on as p does there.
func (k *keeper) restarted(p api.Piece3, t api.Frac) api.Piece3 {
	return api.Piece3{From: t, A: k.value(p, t), B: k.slope(p, t), C: p.C}
}

// least returns the least of the values of a part at its ends, and where it is level between them.
func (k *keeper) least(p part) api.Frac {
	from, to := k.sub(p.from, p.piece.From), k.sub(p.to, p.piece.From)
	least := lesser(k.height(p.piece, from), k.height(p.piece, to))
	if p.piece.C.Num <= 0 {
		return least
	}
	level := k.div(k.sub(whole(0), p.piece.B), k.mul(whole(2), p.piece.C))
	if compare(from, level) < 0 && compare(level, to) < 0 {
		least = lesser(least, k.height(p.piece, level))
	}
	return least
}

func whole(n int) api.Frac { return api.Frac{Num: n, Den: 1} }

// compare returns -1, 0, or 1 for valid fractions, 0 for others, which come from an error that is kept.
func compare(a, b api.Frac) int {
	order, _ := ratio.Cmp(a, b)
	return order
}

func lesser(a, b api.Frac) api.Frac {
	if compare(b, a) < 0 {
		return b
	}
	return a
}
