// Package subsets is layer 7: sums of subsets, and parts whose sum is zero; see shared/doc/07-subsets.md.
package subsets

import (
	"cmp"
	"slices"

	"loftblock/api"
)

const (
	maxNumbers = 16
	// maxNear is the greatest absolute value of a number whose nearest sum is asked for.
	maxNear = 1 << 60
)

// Sums returns the sums of all subsets, ascending, each once.
func Sums(l []int) ([]int, api.Errno) {
	if err := valid(l); err != api.OK {
		return nil, err
	}
	sums := sumsOf(l)
	slices.Sort(sums)
	return slices.Compact(sums), api.OK
}

// Find returns the first subset with a sum.
func Find(l []int, sum int) ([]int, api.Errno) {
	return search(l, sum, 0)
}

// Zero returns the first subset with the sum 0 that is not empty.
func Zero(l []int) ([]int, api.Errno) {
	return search(l, 0, 1)
}

// Parts returns, of the balanced partitions with the greatest number of parts, the first one.
func Parts(l []int) ([][]int, api.Errno) {
	if err := valid(l); err != api.OK {
		return nil, err
	}
	sums := sumsOf(l)
	left := whole(len(l))
	if sums[left] != 0 {
		return nil, api.ErrSum
	}
	most := mostParts(sums)
	var parts [][]int
	for left != 0 {
		part := firstPart(left, sums, most)
		parts = append(parts, part.indices(len(l)))
		left &^= part
	}
	return parts, api.OK
}

// Check reports whether parts are a balanced partition, in the order in which it is written.
func Check(l []int, parts [][]int) (bool, api.Errno) {
	if err := valid(l); err != api.OK {
		return false, err
	}
	var met subset
	least := 0
	for _, part := range parts {
		if !isBalanced(l, part) || part[0] < least {
			return false, api.OK
		}
		least = part[0]
		s := subsetOf(len(l), part)
		if met&s != 0 {
			return false, api.OK
		}
		met |= s
	}
	return met == whole(len(l)), api.OK
}

// Nearest returns the sum with the least distance from a number, the lesser one of two, and the first subset with it.
func Nearest(l []int, sum int) (int, []int, api.Errno) {
	if err := valid(l); err != api.OK {
		return 0, nil, err
	}
	if sum < -maxNear || sum > maxNear {
		return 0, nil, api.ErrRange
	}
	sums := sumsOf(l)
	nearest := slices.MinFunc(sums, func(a, b int) int {
		return cmp.Or(cmp.Compare(distance(a, sum), distance(b, sum)), cmp.Compare(a, b))
	})
	s, _ := first(sums, nearest, 0)
	return nearest, s.indices(len(l)), api.OK
}

// search returns the indices of the first subset with a sum, of those from least on.
func search(l []int, sum int, least subset) ([]int, api.Errno) {
	if err := valid(l); err != api.OK {
		return nil, err
	}
	s, found := first(sumsOf(l), sum, least)
	if !found {
		return nil, api.ErrNone
	}
	return s.indices(len(l)), api.OK
}

// valid returns the first error of a list.
func valid(l []int) api.Errno {
	switch {
	case len(l) > maxNumbers:
		return api.ErrLimit
	case slices.ContainsFunc(l, func(n int) bool { return n < -api.MaxSum || n > api.MaxSum }):
		return api.ErrArg
	}
	return api.OK
}

// isBalanced reports whether indices of a list are a subset with the sum 0 that is not empty.
func isBalanced(l, part []int) bool {
	last, sum := -1, 0
	for _, i := range part {
		if i <= last || i >= len(l) {
			return false
		}
		last = i
		sum += l[i]
	}
	return len(part) > 0 && sum == 0
}

func distance(a, b int) int { return max(a-b, b-a) }
