// Package linear is layer 4: linear equations with exact solutions; see shared/doc/04-linear.md.
package linear

import "loftblock/api"

func Valid(m api.Matrix) (_ bool) { return }

func Rank(m api.Matrix) (_ int, _ api.Errno) { return }

func Det(m api.Matrix) (_ int, _ api.Errno) { return }

func Solve(m api.Matrix, right []int) (_ []api.Frac, _ api.Errno) { return }

func Null(m api.Matrix) (_ [][]api.Frac, _ api.Errno) { return }

func Product(m api.Matrix, x []api.Frac) (_ []api.Frac, _ api.Errno) { return }

func Independent(m api.Matrix) (_ []int, _ api.Errno) { return }
