// Package subsets is layer 7: sums of subsets, and parts whose sum is zero; see shared/doc/07-subsets.md.
package subsets

import "loftblock/api"

func Sums(l []int) (_ []int, _ api.Errno) { return }

func Find(l []int, sum int) (_ []int, _ api.Errno) { return }

func Zero(l []int) (_ []int, _ api.Errno) { return }

func Parts(l []int) (_ [][]int, _ api.Errno) { return }

func Check(l []int, parts [][]int) (_ bool, _ api.Errno) { return }

func Nearest(l []int, sum int) (_ int, _ []int, _ api.Errno) { return }
