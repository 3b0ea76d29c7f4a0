// Package program is layer 5: linear programs with proofs; see shared/doc/05-program.md.
package program

import "loftblock/api"

func Valid(p api.Program) (_ bool) { return }

func Solve(p api.Program) (_ api.Answer, _ api.Errno) { return }

func Check(p api.Program, a api.Answer) (_ bool, _ api.Errno) { return }

func Feasible(p api.Program, x []api.Frac) (_ bool, _ api.Errno) { return }

func Value(p api.Program, x []api.Frac) (_ api.Frac, _ api.Errno) { return }

func Farkas(p api.Program) (_ []api.Frac, _ api.Errno) { return }

func Refutes(p api.Program, y []api.Frac) (_ bool, _ api.Errno) { return }

func Dual(p api.Program) (_ api.Program, _ api.Errno) { return }
