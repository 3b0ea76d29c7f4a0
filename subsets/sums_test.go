package subsets

import (
	"math"
	"slices"
	"testing"

	"loftblock/api"
)

func TestP7_1Sums(t *testing.T) {
	const most = api.MaxSum
	for _, c := range []struct{ l, want []int }{
		{nil, []int{0}}, {[]int{}, []int{0}}, {[]int{0}, []int{0}}, {[]int{5}, []int{0, 5}}, {[]int{-5}, []int{-5, 0}}, {[]int{3, -1}, []int{-1, 0, 2, 3}},
		{[]int{2, 2, 4}, []int{0, 2, 4, 6, 8}}, {[]int{-1, 1}, []int{-1, 0, 1}}, {[]int{most, most}, []int{0, most, 2 * most}}, {[]int{most, -most}, []int{-most, 0, most}},
		{example, []int{-9, -7, -6, -5, -4, -3, -2, -1, 0, 1, 2, 3, 4, 5, 6, 7, 9}}, {make([]int, 16), []int{0}}, {slices.Repeat([]int{1}, 16), upTo(17)},
	} {
		if got, e := Sums(c.l); !same(got, c.want) || e != api.OK {
			t.Errorf("Sums(%v) = %v, %d", c.l, got, e)
		}
	}
	powers := make([]int, 16)
	for i := range powers {
		powers[i] = 1 << i
	}
	if got, e := Sums(powers); !same(got, upTo(1<<16)) || e != api.OK {
		t.Errorf("the powers of 2 have %d sums, %d", len(got), e)
	}
}

// firsts returns for each sum of a list the first subset that has it.
func firsts(l []int) map[int][]int {
	found := map[int][]int{}
	for _, at := range ordered(len(l)) {
		sum := add(l, at)
		if _, is := found[sum]; !is {
			found[sum] = at
		}
	}
	return found
}

// sorted returns the sums that have a subset, ascending.
func sorted(found map[int][]int) []int {
	var sums []int
	for sum := range found {
		sums = append(sums, sum)
	}
	slices.Sort(sums)
	return sums
}

func TestP7_1SumsOfAll(t *testing.T) {
	for _, l := range slices.Concat(small(), large()) {
		want := sorted(firsts(l))
		if got, e := Sums(l); !same(got, want) || e != api.OK {
			t.Errorf("Sums(%v) = %v, %d, not %v", l, got, e, want)
		}
	}
}

func TestP7_1Nearest(t *testing.T) {
	const most, far = api.MaxSum, 1 << 60
	for _, c := range []struct {
		l       []int
		sum     int
		nearest int
		want    []int
	}{
		{example, 8, 7, []int{0, 1, 3}}, {example, -8, -9, []int{1, 2, 4}}, {example, 100, 9, []int{0, 3}}, {example, -100, -9, []int{1, 2, 4}}, {example, 0, 0, nil}, {example, 2, 2, []int{0, 2}},
		{nil, 0, 0, nil}, {nil, far, 0, nil}, {nil, -far, 0, nil}, {[]int{3}, 1, 0, nil}, {[]int{3}, 2, 3, []int{0}}, {[]int{4}, 2, 0, nil}, {[]int{-4}, -2, -4, []int{0}}, {[]int{-4}, -1, 0, nil},
		{[]int{10, 4, 6}, 9, 10, []int{0}}, {[]int{4, 6, 10}, 9, 10, []int{2}}, {[]int{4, 6, 10}, 8, 6, []int{1}}, {[]int{0, 0, 7}, 5, 7, []int{2}},
		{slices.Repeat([]int{most}, 16), far, 16 * most, upTo(16)}, {slices.Repeat([]int{-most}, 16), -far, -16 * most, upTo(16)}, {slices.Repeat([]int{most}, 16), -far, 0, nil}, {slices.Repeat([]int{-most}, 16), far, 0, nil},
		{slices.Repeat([]int{most}, 16), most/2 + 1, most, []int{0}}, {slices.Repeat([]int{most}, 16), most / 2, 0, nil},
	} {
		if n, got, e := Nearest(c.l, c.sum); n != c.nearest || !same(got, c.want) || e != api.OK {
			t.Errorf("Nearest(%v, %d) = %d, %v, %d", c.l, c.sum, n, got, e)
		}
	}
}

// between returns numbers at, beside, and between sums.
func between(sums []int) []int {
	list := []int{1 << 60, -1 << 60, 1<<60 - 1, 0, 1, -1, api.MaxSum, -api.MaxSum, sums[0] - 7, sums[len(sums)-1] + 7}
	step := 1 + len(sums)/3
	for i := 0; i < len(sums); i += step {
		list = append(list, sums[i]-1, sums[i], sums[i]+1)
		if i > 0 {
			middle := sums[i-1] + (sums[i]-sums[i-1])/2
			list = append(list, middle-1, middle, middle+1)
		}
	}
	return list
}

func TestP7_1NearestOfAll(t *testing.T) {
	halves := 0
	for _, l := range slices.Concat(small(), large()) {
		found := firsts(l)
		sums := sorted(found)
		for _, sum := range between(sums) {
			// The sums ascend, so the lesser one of two comes first.
			nearest := sums[0]
			for _, s := range sums {
				if max(s-sum, sum-s) < max(nearest-sum, sum-nearest) {
					nearest = s
				}
			}
			if _, is := found[2*sum-nearest]; is && nearest != sum {
				halves++
			}
			if n, got, e := Nearest(l, sum); n != nearest || !same(got, found[nearest]) || e != api.OK {
				t.Errorf("Nearest(%v, %d) = %d, %v, %d, not %d, %v", l, sum, n, got, e, nearest, found[nearest])
			}
		}
	}
	if halves < 1000 {
		t.Error(halves)
	}
}

func TestP7_1Errors(t *testing.T) {
	for _, c := range strangers() {
		if l, e := Sums(c.l); l != nil || e != c.e {
			t.Errorf("Sums(%v) = %v, %d", c.l, l, e)
		}
		for _, sum := range []int{0, 1, 1<<60 + 1, math.MinInt} {
			if n, l, e := Nearest(c.l, sum); n != 0 || l != nil || e != c.e {
				t.Errorf("Nearest(%v, %d) = %d, %v, %d", c.l, sum, n, l, e)
			}
		}
	}
	for _, sum := range []int{1<<60 + 1, -1<<60 - 1, 1 << 61, math.MaxInt, math.MinInt} {
		for _, l := range [][]int{nil, {5}, example, make([]int, 16)} {
			if n, got, e := Nearest(l, sum); n != 0 || got != nil || e != api.ErrRange {
				t.Errorf("Nearest(%v, %d) = %d, %v, %d", l, sum, n, got, e)
			}
		}
	}
}

func TestP7_2Find(t *testing.T) {
	const most = api.MaxSum
	for _, c := range []struct {
		l    []int
		sum  int
		want []int
		e    api.Errno
	}{
		{example, 0, nil, api.OK}, {example, 5, []int{0}, api.OK}, {example, 2, []int{0, 2}, api.OK}, {example, 9, []int{0, 3}, api.OK}, {example, -9, []int{1, 2, 4}, api.OK}, {example, -5, []int{1, 2}, api.OK},
		{example, 6, []int{0, 2, 3}, api.OK}, {example, 8, nil, api.ErrNone}, {example, 10, nil, api.ErrNone}, {example, -10, nil, api.ErrNone}, {nil, 0, nil, api.OK}, {nil, 1, nil, api.ErrNone},
		{[]int{0, 0}, 0, nil, api.OK}, {[]int{3, 3, 3}, 3, []int{0}, api.OK}, {[]int{3, 3, 3}, 6, []int{0, 1}, api.OK}, {[]int{1, 2, 3, 4}, 5, []int{0, 3}, api.OK}, {[]int{2, 3, 1, 4}, 5, []int{0, 1}, api.OK},
		{[]int{1, 2, 3}, 3, []int{2}, api.OK}, {[]int{9, 1, 2, 3, 4, 5}, 10, []int{0, 1}, api.OK}, {[]int{1, 2, 3, 4, 5, 6}, 10, []int{3, 5}, api.OK}, {[]int{0, 1, 0, 2, 3}, 6, []int{1, 3, 4}, api.OK},
		{slices.Repeat([]int{most}, 16), 16 * most, upTo(16), api.OK}, {slices.Repeat([]int{-most}, 16), -16 * most, upTo(16), api.OK}, {slices.Repeat([]int{most}, 16), 7 * most, upTo(7), api.OK},
		{slices.Repeat([]int{most}, 16), 17 * most, nil, api.ErrNone}, {example, math.MaxInt, nil, api.ErrNone}, {example, math.MinInt, nil, api.ErrNone}, {[]int{most, -most}, 1<<60 + 1, nil, api.ErrNone},
	} {
		if got, e := Find(c.l, c.sum); !same(got, c.want) || e != c.e {
			t.Errorf("Find(%v, %d) = %v, %d", c.l, c.sum, got, e)
		}
	}
}

func TestP7_2FindOfAll(t *testing.T) {
	for _, l := range slices.Concat(small(), large()) {
		found := firsts(l)
		for _, sum := range between(sorted(found)) {
			want, is := found[sum]
			if got, e := Find(l, sum); !same(got, want) || is != (e == api.OK) || !is && e != api.ErrNone {
				t.Errorf("Find(%v, %d) = %v, %d, not %v", l, sum, got, e, want)
			}
		}
	}
}

func TestP7_2Zero(t *testing.T) {
	for _, c := range []struct {
		l, want []int
		e       api.Errno
	}{
		{example, []int{3, 4}, api.OK}, {nil, nil, api.ErrNone}, {[]int{1, 2}, nil, api.ErrNone}, {[]int{0}, []int{0}, api.OK}, {[]int{1, 0, 0}, []int{1}, api.OK}, {[]int{1, -1, 0}, []int{2}, api.OK},
		{[]int{1, 2, -3}, []int{0, 1, 2}, api.OK}, {[]int{1, 2, -3, 5, -5}, []int{3, 4}, api.OK}, {[]int{1, -1, 1}, []int{0, 1}, api.OK}, {[]int{-1, 2, 1, -2}, []int{0, 2}, api.OK},
		{slices.Repeat([]int{1}, 16), nil, api.ErrNone}, {slices.Repeat([]int{-1}, 16), nil, api.ErrNone}, {append(slices.Repeat([]int{1}, 15), -15), upTo(16), api.OK}, {append(slices.Repeat([]int{1}, 15), -16), nil, api.ErrNone},
	} {
		if got, e := Zero(c.l); !same(got, c.want) || e != c.e {
			t.Errorf("Zero(%v) = %v, %d", c.l, got, e)
		}
	}
}

func TestP7_2ZeroOfAll(t *testing.T) {
	found := 0
	for _, l := range slices.Concat(small(), large()) {
		var want []int
		subsets := ordered(len(l))[1:]
		if i := slices.IndexFunc(subsets, func(at []int) bool { return add(l, at) == 0 }); i >= 0 {
			want = subsets[i]
			found++
		}
		if got, e := Zero(l); !same(got, want) || (want != nil) != (e == api.OK) || want == nil && e != api.ErrNone {
			t.Errorf("Zero(%v) = %v, %d, not %v", l, got, e, want)
		}
	}
	if found < 500 {
		t.Error(found)
	}
}

func TestP7_2Errors(t *testing.T) {
	for _, c := range strangers() {
		for _, sum := range []int{0, 1, c.l[0], math.MaxInt} {
			if l, e := Find(c.l, sum); l != nil || e != c.e {
				t.Errorf("Find(%v, %d) = %v, %d", c.l, sum, l, e)
			}
		}
		if l, e := Zero(c.l); l != nil || e != c.e {
			t.Errorf("Zero(%v) = %v, %d", c.l, l, e)
		}
	}
}
