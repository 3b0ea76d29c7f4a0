package subsets

import "math/bits"

// subset is a subset by its bits. The last index of the list is the lowest bit: so, of two subsets with as many indices, the one with the greater number comes first lexicographically.
type subset uint

// whole returns the subset of all indices of a list with n numbers.
func whole(n int) subset { return 1<<n - 1 }

// subsetOf returns the subset of some indices of a list with n numbers.
func subsetOf(n int, indices []int) subset {
	var s subset
	for _, i := range indices {
		s |= 1 << (n - 1 - i)
	}
	return s
}

// indices returns the indices of a subset of a list with n numbers, ascending.
func (s subset) indices(n int) []int {
	var list []int
	for i := range n {
		if s>>(n-1-i)&1 != 0 {
			list = append(list, i)
		}
	}
	return list
}

// size returns the number of the indices of a subset.
func (s subset) size() int { return bits.OnesCount(uint(s)) }

// sumsOf returns the sums of all subsets of a list.
func sumsOf(l []int) []int {
	sums := make([]int, 1<<len(l))
	for s := subset(1); s <= whole(len(l)); s++ {
		last := len(l) - 1 - bits.TrailingZeros(uint(s))
		sums[s] = sums[s&(s-1)] + l[last]
	}
	return sums
}

// first returns the first subset with a sum, of those from least on, and whether there is one.
func first(sums []int, sum int, least subset) (subset, bool) {
	var best subset
	found := false
	for s := least; s < subset(len(sums)); s++ {
		// Of as many indices, the greatest number comes first.
		if sums[s] == sum && (!found || s.size() <= best.size()) {
			best, found = s, true
		}
	}
	return best, found
}

// mostParts returns for all subsets how many parts of them, without a common index, have the sum 0, at most.
func mostParts(sums []int) []int {
	most := make([]int, len(sums))
	for s := subset(1); s < subset(len(sums)); s++ {
		for rest := s; rest != 0; rest &= rest - 1 {
			without := s &^ (rest & -rest)
			most[s] = max(most[s], most[without])
		}
		// Then what the parts leave over, at least the index that was taken out, has the sum 0, too, and is one more part.
		if sums[s] == 0 {
			most[s]++
		}
	}
	return most
}

// firstPart returns the lexicographically first part of a subset with the sum 0 that leaves as many parts as possible.
func firstPart(left subset, sums, most []int) subset {
	part := left
	// No such part is a beginning of another one, which would be two parts then: so the greatest number comes first.
	for sums[part] != 0 || most[left&^part] != most[left]-1 {
		part = (part - 1) & left
	}
	return part
}
