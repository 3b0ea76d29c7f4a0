package graph

import (
	"slices"
	"testing"

	"loftblock/api"
)

func TestP6_4ForestAndParts(t *testing.T) {
	for _, g := range slices.Concat(small(), large()) {
		forest, e := Forest(g.n, g.edges)
		parts, f := Parts(g.n, g.edges)
		if len(forest)+len(parts) != g.n || e != api.OK || f != api.OK {
			t.Errorf("%v has %d edges in the forest and %d parts", g, len(forest), len(parts))
		}
	}
}

func TestP6_4Cycles(t *testing.T) {
	for _, g := range slices.Concat(small(), large()) {
		forest, _ := Forest(g.n, g.edges)
		bridges, _ := Bridges(g.n, g.edges)
		cycles, _ := Cycles(g.n, g.edges)
		in := make([]bool, len(g.edges))
		for _, cycle := range cycles {
			if is, e := Cycle(g.n, g.edges, cycle); !is || e != api.OK {
				t.Errorf("%v has the cycle %v, which is none: %d", g, cycle, e)
			}
			outside := 0
			for _, i := range cycle {
				in[i] = true
				if _, is := slices.BinarySearch(forest, i); !is {
					outside++
				}
			}
			if outside != 1 {
				t.Errorf("%v has the cycle %v with %d edges outside the forest", g, cycle, outside)
			}
		}
		for i, is := range in {
			if is == slices.Contains(bridges, i) {
				t.Errorf("%v has the bridges %v, and %d in a cycle: %t", g, bridges, i, is)
			}
		}
	}
}

func TestP6_4WithoutAnEdge(t *testing.T) {
	for _, g := range slices.Concat(small(), large()) {
		parts, _ := Parts(g.n, g.edges)
		bridges, _ := Bridges(g.n, g.edges)
		step := 1 + len(g.edges)/100
		for i := 0; i < len(g.edges); i += step {
			less, e := Parts(g.n, without(g.edges, i))
			bridge := slices.Contains(bridges, i)
			if sameLists(less, parts) == bridge || bridge && len(less) != len(parts)+1 || e != api.OK {
				t.Errorf("%v has the parts %v, and without %d, which is a bridge: %t, %v", g, parts, i, bridge, less)
			}
		}
	}
}

func TestP6_4PathsBack(t *testing.T) {
	next := numbers()
	for _, g := range slices.Concat(small(), large()) {
		parts, _ := Parts(g.n, g.edges)
		for range min(g.n*g.n, 40) {
			a, b := next(0, g.n-1), next(0, g.n-1)
			there, e := Path(g.n, g.edges, a, b)
			back, f := Path(g.n, g.edges, b, a)
			joined := slices.ContainsFunc(parts, func(part []int) bool { return slices.Contains(part, a) && slices.Contains(part, b) })
			if len(there) != len(back) || e != f || joined != (e == api.OK) || !joined && e != api.ErrNone {
				t.Errorf("%v has the path %v, %d from %d to %d, and back %v, %d", g, there, e, a, b, back, f)
			}
			node := a
			for _, i := range there {
				if !slices.Contains(g.edges[i][:], node) {
					t.Fatalf("%v has the path %v from %d, which %d does not go on", g, there, a, i)
				}
				node = g.edges[i][0] + g.edges[i][1] - node
			}
			if joined && node != b {
				t.Errorf("%v has the path %v from %d to %d, not %d", g, there, a, node, b)
			}
		}
	}
}

func TestP1ArgumentsStay(t *testing.T) {
	for _, g := range []network{square, eight, complete(10), {3, nil}} {
		edges := slices.Clone(g.edges)
		list := []int{2, 1, 0}
		Valid(g.n, edges)
		Parts(g.n, edges)
		Forest(g.n, edges)
		Cycles(g.n, edges)
		Bridges(g.n, edges)
		Path(g.n, edges, 0, 2)
		Count(g.n, edges)
		Cycle(g.n, edges, list)
		if !slices.Equal(edges, g.edges) || !same(list, []int{2, 1, 0}) {
			t.Errorf("%v became %v, %v", g, edges, list)
		}
	}
}

// spoil changes all numbers of a list, and those behind it that a longer list might share.
func spoil(list []int) {
	list = list[:cap(list)]
	for i := range list {
		list[i] = -7
	}
}

func TestP1ResultsApart(t *testing.T) {
	for _, f := range []func(int, [][2]int) ([][]int, api.Errno){Parts, Cycles} {
		for _, g := range []network{square, eight, complete(10)} {
			want, _ := f(g.n, g.edges)
			got, _ := f(g.n, g.edges)
			for i := range got {
				spoil(got[i])
				if !sameLists(got[i+1:], want[i+1:]) {
					t.Errorf("the lists %v share memory", want)
				}
			}
			if again, _ := f(g.n, g.edges); !sameLists(again, want) {
				t.Errorf("%v is kept between calls", want)
			}
		}
	}
	for _, f := range []func(int, [][2]int) ([]int, api.Errno){Forest, Bridges, func(n int, edges [][2]int) ([]int, api.Errno) { return Path(n, edges, 0, 3) }} {
		want, _ := f(square.n, square.edges)
		got, _ := f(square.n, square.edges)
		spoil(got)
		if again, _ := f(square.n, square.edges); !same(again, want) {
			t.Errorf("%v is kept between calls", want)
		}
	}
}
