package quadratic

import (
	"slices"
	"sort"

	"loftblock/api"
)

// part is a piece with the times between which it is the piece, of the times that are asked for.
type part struct {
	piece    api.Piece3
	from, to api.Frac
}

// indexAt returns the index of the piece of a valid curve at a time, -1 before the first one.
func indexAt(c api.Curve, t api.Frac) int {
	after := sort.Search(len(c), func(i int) bool { return compare(c[i].From, t) > 0 })
	return after - 1
}

// pieceAt returns the piece of a valid curve at a time. Before the first one this is a level piece from that time on.
func pieceAt(c api.Curve, t api.Frac) api.Piece3 {
	if i := indexAt(c, t); i >= 0 {
		return c[i]
	}
	return api.Piece3{From: t, A: c[0].A, B: whole(0), C: whole(0)}
}

// partsOf returns the parts of a valid curve between two times, in order.
func partsOf(c api.Curve, from, to api.Frac) []part {
	first, last := indexAt(c, from), indexAt(c, to)
	var parts []part
	if first < 0 {
		// One time stands for all before the first piece, since the curve is level there.
		parts = append(parts, part{pieceAt(c, from), from, from})
	}
	for i := max(first, 0); i <= last; i++ {
		p := part{c[i], from, to}
		if i > first {
			p.from = c[i].From
		}
		if i < last {
			p.to = c[i+1].From
		}
		parts = append(parts, p)
	}
	return parts
}

// begins returns the times at which a piece of one of two curves begins, ascending, each once.
func begins(a, b api.Curve) []api.Frac {
	var times []api.Frac
	for _, p := range slices.Concat(a, b) {
		times = append(times, p.From)
	}
	slices.SortFunc(times, compare)
	return slices.Compact(times)
}
