package program

import "loftblock/api"

// Dual returns the dual of a program.
func Dual(p api.Program) (api.Program, api.Errno) {
	switch {
	case !Valid(p):
		return api.Program{}, api.ErrArg
	case len(p.Rows) == 0:
		return api.Program{}, api.ErrEmpty
	}
	shares := sharesOf(p)
	switch {
	case len(p.Cost) > api.MaxRows || len(shares) > api.MaxColumns:
		return api.Program{}, api.ErrFull
	case !smallRights(p):
		return api.Program{}, api.ErrBig
	}
	var dual api.Program
	for _, s := range shares {
		dual.Cost = append(dual.Cost, -s.sign*p.Rows[s.row].Right)
	}
	for j, cost := range p.Cost {
		row := api.Row{Kind: api.AtMost, Right: cost}
		for _, s := range shares {
			row.Coefs = append(row.Coefs, s.sign*p.Rows[s.row].Coefs[j])
		}
		dual.Rows = append(dual.Rows, row)
	}
	return dual, api.OK
}

// share is a variable of the dual: it is added to the multiplier of a row, or taken from it.
type share struct{ row, sign int }

// sharesOf returns the variables of the dual.
func sharesOf(p api.Program) []share {
	var shares []share
	for i, r := range p.Rows {
		if r.Kind != api.AtMost {
			shares = append(shares, share{i, 1})
		}
		if r.Kind != api.AtLeast {
			shares = append(shares, share{i, -1})
		}
	}
	return shares
}

// smallRights reports whether the right-hand sides may be costs.
func smallRights(p api.Program) bool {
	for _, r := range p.Rows {
		if !within(api.MaxCoef, r.Right) {
			return false
		}
	}
	return true
}
