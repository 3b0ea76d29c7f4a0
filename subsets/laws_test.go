package subsets

import (
	"slices"
	"testing"

	"loftblock/api"
)

func TestP7_4Pairs(t *testing.T) {
	for _, l := range slices.Concat(small(), large()) {
		sums, e := Sums(l)
		total := add(l, upTo(len(l)))
		for i, sum := range sums {
			if sum+sums[len(sums)-1-i] != total {
				t.Errorf("%v has the sums %v", l, sums)
				break
			}
		}
		if _, is := slices.BinarySearch(sums, total); !is || e != api.OK {
			t.Errorf("%v has the sums %v, %d, without that of all", l, sums, e)
		}
	}
}

func TestP7_4FoundIfSum(t *testing.T) {
	for _, l := range slices.Concat(small(), large()) {
		sums, _ := Sums(l)
		for _, sum := range between(sums) {
			_, is := slices.BinarySearch(sums, sum)
			at, e := Find(l, sum)
			nearest, near, f := Nearest(l, sum)
			if is != (e == api.OK) || is && add(l, at) != sum || f != api.OK {
				t.Errorf("%v has the sum %d: %t, and there is %v, %d", l, sum, is, at, e)
			}
			if is != (nearest == sum) || is && !same(at, near) || add(l, near) != nearest {
				t.Errorf("%v has the sum %d at %v, but the nearest %d at %v", l, sum, at, nearest, near)
			}
		}
	}
}

func TestP7_4PartsOfParts(t *testing.T) {
	for _, l := range slices.Concat(small(), large()) {
		parts, e := Parts(l)
		if e != api.OK {
			continue
		}
		if is, e := Check(l, parts); !is || e != api.OK {
			t.Errorf("%v has the parts %v: %t, %d", l, parts, is, e)
		}
		for _, part := range parts {
			var own []int
			for _, i := range part {
				own = append(own, l[i])
			}
			if again, e := Parts(own); !sameLists(again, [][]int{upTo(len(own))}) || e != api.OK {
				t.Errorf("%v has the parts %v, and %v of them %v, %d", l, parts, own, again, e)
			}
		}
	}
}

func TestP7_4NoMoreParts(t *testing.T) {
	more := 0
	for _, l := range slices.Concat(small(), large()[8:]) {
		parts, e := Parts(l)
		if e != api.OK {
			continue
		}
		partitions(zeros(l), upTo(len(l)), nil, func(other [][]int) {
			if is, e := Check(l, other); !is || e != api.OK || len(other) > len(parts) {
				t.Errorf("%v has the parts %v, and also %v: %t, %d", l, parts, other, is, e)
			}
			more++
		})
	}
	if more < 3000 {
		t.Error(more)
	}
}

func TestP7_4Orders(t *testing.T) {
	next := numbers()
	for _, l := range slices.Concat(small(), large()) {
		sums, e := Sums(l)
		parts, f := Parts(l)
		for range 2 {
			other := shuffled(next, l)
			if s, g := Sums(other); !same(s, sums) || g != e {
				t.Errorf("%v has the sums %v, %d, %v has %v, %d", l, sums, e, other, s, g)
			}
			if p, g := Parts(other); len(p) != len(parts) || g != f {
				t.Errorf("%v has the parts %v, %d, %v has %v, %d", l, parts, f, other, p, g)
			}
		}
	}
}

func TestP1ArgumentsStay(t *testing.T) {
	for _, l := range [][]int{example, {3, 1, 2}, {2, -2, 0}, make([]int, 16)} {
		kept := slices.Clone(l)
		parts := [][]int{{2, 1}, {0, 3}, {}}
		Sums(kept)
		Find(kept, 3)
		Zero(kept)
		Parts(kept)
		Check(kept, parts)
		Nearest(kept, 7)
		if !same(kept, l) || !sameLists(parts, [][]int{{2, 1}, {0, 3}, {}}) {
			t.Errorf("%v became %v, %v", l, kept, parts)
		}
	}
}

// spoil changes all numbers of a list, and those behind it that a longer list might share.
func spoil(list []int) {
	list = list[:cap(list)]
	for i := range list {
		list[i] = -7
	}
}

func TestP1ResultsApart(t *testing.T) {
	for _, l := range [][]int{example, {0, 0, 0}, {2, 1, -1, -2, 0}} {
		want, _ := Parts(l)
		got, _ := Parts(l)
		for i := range got {
			spoil(got[i])
			if !sameLists(got[i+1:], want[i+1:]) {
				t.Errorf("the parts %v share memory", want)
			}
		}
		if again, _ := Parts(l); !sameLists(again, want) {
			t.Errorf("%v is kept between calls", want)
		}
	}
	nearest := func(l []int) ([]int, api.Errno) {
		_, at, e := Nearest(l, 4)
		return at, e
	}
	for _, f := range []func([]int) ([]int, api.Errno){Sums, Zero, nearest, func(l []int) ([]int, api.Errno) { return Find(l, 5) }} {
		l := slices.Clone(example)
		want, _ := f(l)
		got, _ := f(l)
		spoil(got)
		if again, _ := f(l); !same(again, want) || !same(l, example) {
			t.Errorf("%v is kept between calls, or shared with %v", want, l)
		}
	}
}
