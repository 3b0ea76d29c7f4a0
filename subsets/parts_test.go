package subsets

import (
	"math"
	"slices"
	"testing"

	"loftblock/api"
)

func TestP7_3Parts(t *testing.T) {
	const most = api.MaxSum
	for _, c := range []struct {
		l    []int
		want [][]int
	}{
		{nil, nil}, {[]int{}, nil}, {[]int{0}, [][]int{{0}}}, {[]int{0, 0}, [][]int{{0}, {1}}}, {example, [][]int{{0, 1, 2}, {3, 4}}}, {[]int{1, -1}, [][]int{{0, 1}}}, {[]int{1, 0, -1}, [][]int{{0, 2}, {1}}},
		{[]int{1, 2, -1, -2, 1, -1}, [][]int{{0, 2}, {1, 3}, {4, 5}}}, {[]int{3, -1, -2, 3, -2, -1}, [][]int{{0, 1, 2}, {3, 4, 5}}}, {[]int{1, 1, -1, -1}, [][]int{{0, 2}, {1, 3}}},
		// The first part may have more indices than another one that would do.
		{[]int{3, -1, -2, -3, 3}, [][]int{{0, 1, 2}, {3, 4}}}, {[]int{3, 4, -1, -2, -5, 1}, [][]int{{0, 1, 3, 4}, {2, 5}}}, {[]int{3, -3, 1, 2, -2, -4, 3}, [][]int{{0, 1}, {2, 5, 6}, {3, 4}}},
		// The shortest part 0, 1, 2 would leave but one.
		{[]int{1, 2, -3, 10, 100, -111, 1000, 3000, -4002, 20000, 50000, -69997}, [][]int{{0, 3, 4, 5}, {1, 6, 7, 8}, {2, 9, 10, 11}}},
		{make([]int, 16), [][]int{{0}, {1}, {2}, {3}, {4}, {5}, {6}, {7}, {8}, {9}, {10}, {11}, {12}, {13}, {14}, {15}}}, {append(slices.Repeat([]int{1}, 15), -15), [][]int{upTo(16)}},
		{slices.Repeat([]int{most, -most}, 8), [][]int{{0, 1}, {2, 3}, {4, 5}, {6, 7}, {8, 9}, {10, 11}, {12, 13}, {14, 15}}},
		{append(slices.Repeat([]int{most}, 8), slices.Repeat([]int{-most}, 8)...), [][]int{{0, 8}, {1, 9}, {2, 10}, {3, 11}, {4, 12}, {5, 13}, {6, 14}, {7, 15}}},
	} {
		if got, e := Parts(c.l); !sameLists(got, c.want) || e != api.OK {
			t.Errorf("Parts(%v) = %v, %d, not %v", c.l, got, e, c.want)
		}
	}
}

// zeros returns all subsets with the sum 0 that are not empty, in lexicographic order.
func zeros(l []int) [][]int {
	list := slices.DeleteFunc(slices.Clone(ordered(len(l))), func(at []int) bool { return len(at) == 0 || add(l, at) != 0 })
	slices.SortFunc(list, slices.Compare[[]int])
	return list
}

// partitions calls a function for all partitions into parts of a list of the indices that are left, such that an earlier one comes first.
func partitions(parts [][]int, left []int, begun [][]int, each func([][]int)) {
	if len(left) == 0 {
		each(begun)
		return
	}
	for _, part := range parts {
		if part[0] == left[0] && !slices.ContainsFunc(part, func(i int) bool { return !slices.Contains(left, i) }) {
			rest := slices.DeleteFunc(slices.Clone(left), func(i int) bool { return slices.Contains(part, i) })
			partitions(parts, rest, append(slices.Clip(begun), part), each)
		}
	}
}

// firstOfMost returns, of the balanced partitions with the most parts, the first one, and how many have as many parts, by trying all of them.
func firstOfMost(l []int) (best [][]int, ways int) {
	partitions(zeros(l), upTo(len(l)), nil, func(parts [][]int) {
		switch {
		case ways == 0 || len(parts) > len(best):
			best, ways = parts, 1
		case len(parts) == len(best):
			ways++
		}
	})
	return best, ways
}

func TestP7_3PartsOfAll(t *testing.T) {
	several, none := 0, 0
	for _, l := range slices.Concat(small(), large()[8:]) {
		if add(l, upTo(len(l))) != 0 {
			none++
			if got, e := Parts(l); got != nil || e != api.ErrSum {
				t.Errorf("Parts(%v) = %v, %d", l, got, e)
			}
			continue
		}
		want, ways := firstOfMost(l)
		if ways > 1 {
			several++
		}
		if got, e := Parts(l); !sameLists(got, want) || e != api.OK {
			t.Errorf("Parts(%v) = %v, %d, not %v", l, got, e, want)
		}
	}
	if several < 100 || none < 1000 {
		t.Error(several, none)
	}
}

func TestP7_3Check(t *testing.T) {
	pairs := []int{1, -1, 1, -1}
	for _, c := range []struct {
		l     []int
		parts [][]int
		want  bool
	}{
		{example, [][]int{{0, 1, 2}, {3, 4}}, true}, {example, [][]int{{0, 1, 2, 3, 4}}, true}, {example, [][]int{{3, 4}, {0, 1, 2}}, false}, {example, [][]int{{0, 2, 1}, {3, 4}}, false}, {example, [][]int{{0, 1, 2}}, false},
		{example, [][]int{{3, 4}}, false}, {example, [][]int{{0, 1, 2}, {3, 4}, {}}, false}, {example, [][]int{{}, {0, 1, 2}, {3, 4}}, false}, {example, [][]int{nil, {0, 1, 2}, {3, 4}}, false}, {example, [][]int{{0, 4}, {1, 2, 3}}, false},
		{example, [][]int{{0, 1, 2}, {3, 4, 4}}, false}, {example, [][]int{{0, 1, 2}, {3, 4}, {3, 4}}, false}, {example, [][]int{{0, 1, 2}, {3, 5}}, false}, {example, [][]int{{-1, 0, 1, 2}, {3, 4}}, false}, {example, [][]int{{0, 1, 2}, {3, 4, 5}}, false},
		{example, [][]int{{0, 1, 2}, {3}, {4}}, false}, {example, [][]int{{0}, {1}, {2}, {3}, {4}}, false}, {example, nil, false}, {example, [][]int{nil}, false}, {example, [][]int{{math.MaxInt}}, false}, {example, [][]int{{math.MinInt}}, false},
		{example, [][]int{{0, 1, 2, math.MaxInt}, {3, 4}}, false}, {example, [][]int{{math.MinInt, 0, 1, 2}, {3, 4}}, false}, {example, slices.Repeat([][]int{{3, 4}}, 100000), false}, {example, [][]int{upTo(100000)}, false},
		{nil, nil, true}, {nil, [][]int{}, true}, {nil, [][]int{nil}, false}, {nil, [][]int{{}}, false}, {nil, [][]int{{0}}, false}, {nil, [][]int{{-1}}, false}, {[]int{0}, [][]int{{0}}, true}, {[]int{0}, nil, false}, {[]int{0}, [][]int{{0}, {0}}, false},
		{[]int{0}, [][]int{{0, 0}}, false}, {[]int{0, 0}, [][]int{{0}, {1}}, true}, {[]int{0, 0}, [][]int{{0, 1}}, true}, {[]int{0, 0}, [][]int{{1}, {0}}, false}, {[]int{0, 0}, [][]int{{1, 0}}, false}, {[]int{0, 0}, [][]int{{0, 1}, {1}}, false}, {[]int{0, 0}, [][]int{{1}}, false},
		{pairs, [][]int{{0, 1}, {2, 3}}, true}, {pairs, [][]int{{0, 3}, {1, 2}}, true}, {pairs, [][]int{{0, 1, 2, 3}}, true}, {pairs, [][]int{{0, 1}, {1, 2}}, false}, {pairs, [][]int{{0, 1}, {0, 3}, {2, 3}}, false}, {pairs, [][]int{{0, 2}, {1, 3}}, false},
		{pairs, [][]int{{0, 1}, {1, 2}, {2, 3}}, false}, {pairs, [][]int{{0, 1}, {0, 1}}, false}, {pairs, [][]int{{1, 2}, {0, 3}}, false}, {[]int{1}, [][]int{{0}}, false}, {[]int{1}, nil, false}, {[]int{1, 1}, [][]int{{0, 1}}, false},
		{[]int{1, -1, 2}, [][]int{{0, 1}}, false}, {[]int{1, -1, 2}, [][]int{{0, 1}, {2}}, false}, {slices.Repeat([]int{api.MaxSum, -api.MaxSum}, 8), [][]int{upTo(16)}, true}, {slices.Repeat([]int{api.MaxSum}, 16), [][]int{upTo(16)}, false},
	} {
		if got, e := Check(c.l, c.parts); got != c.want || e != api.OK {
			t.Errorf("Check(%v, %v) = %t, %d", c.l, c.parts[:min(len(c.parts), 9)], got, e)
		}
	}
}

// isPartition reports whether parts are a balanced partition, by counting the parts that each index is in.
func isPartition(l []int, parts [][]int) bool {
	for i, part := range parts {
		strictly := slices.IsSorted(part) && len(slices.Compact(slices.Clone(part))) == len(part)
		if len(part) == 0 || !strictly || i > 0 && parts[i-1][0] >= part[0] {
			return false
		}
		if part[0] < 0 || part[len(part)-1] >= len(l) || add(l, part) != 0 {
			return false
		}
	}
	all := slices.Concat(parts...)
	slices.Sort(all)
	return same(all, upTo(len(l)))
}

func TestP7_3CheckOfAll(t *testing.T) {
	right := 0
	for _, l := range [][]int{nil, {0}, {1}, {0, 0}, {1, -1}, {1, 0}, {0, 0, 0}, {1, -1, 0}, {1, 1, -2}, {0, 1, -1}} {
		subsets := slices.Concat([][]int{nil}, everything(1, -1, 3), everything(2, -1, 2), everything(3, 0, 2))
		for _, a := range subsets {
			for _, b := range subsets {
				for _, parts := range [][][]int{nil, {a}, {a, b}, {b, {2}}, {a, b, {2}}, {{0}, a, b}} {
					want := isPartition(l, parts)
					if want {
						right++
					}
					if got, e := Check(l, parts); got != want || e != api.OK {
						t.Errorf("Check(%v, %v) = %t, %d", l, parts, got, e)
					}
				}
			}
		}
	}
	if right < 500 {
		t.Error(right)
	}
}

func TestP7_3CheckChanged(t *testing.T) {
	next := numbers()
	for _, l := range slices.Concat(small(), large()) {
		parts, e := Parts(l)
		if e != api.OK {
			continue
		}
		if is, e := Check(l, parts); !is || e != api.OK {
			t.Errorf("Check(%v, %v) = %t, %d", l, parts, is, e)
		}
		if len(parts) == 0 {
			continue
		}
		k := next(0, len(parts)-1)
		changed := slices.Clone(parts)
		changed[k] = slices.Clone(parts[k])
		changed[k][next(0, len(changed[k])-1)] = next(-1, len(l))
		without := slices.Delete(slices.Clone(parts), k, k+1)
		twice := slices.Insert(slices.Clone(parts), k, parts[k])
		joined := slices.Delete(slices.Clone(parts), k, k+1)
		if k > 0 {
			joined[k-1] = slices.Sorted(slices.Values(slices.Concat(parts[k-1], parts[k])))
		}
		for _, c := range [][][]int{changed, without, twice, joined} {
			if is, e := Check(l, c); is != isPartition(l, c) || e != api.OK {
				t.Errorf("Check(%v, %v) = %t, %d", l, c, is, e)
			}
		}
	}
}

func TestP7_3Errors(t *testing.T) {
	for _, l := range [][]int{{1}, {-1}, {1, 1}, {5, -2, -3, 4}, {api.MaxSum}, {api.MaxSum, 1 - api.MaxSum}, upTo(16)} {
		if parts, e := Parts(l); parts != nil || e != api.ErrSum {
			t.Errorf("Parts(%v) = %v, %d", l, parts, e)
		}
	}
	for _, c := range strangers() {
		if parts, e := Parts(c.l); parts != nil || e != c.e {
			t.Errorf("Parts(%v) = %v, %d", c.l, parts, e)
		}
		for _, parts := range [][][]int{nil, {{0}}, {upTo(len(c.l))}, {{-1}}, {nil}} {
			if is, e := Check(c.l, parts); is || e != c.e {
				t.Errorf("Check(%v, %v) = %t, %d", c.l, parts, is, e)
			}
		}
	}
}
