package graph

import (
	"slices"
	"testing"

	"loftblock/api"
)

// reached returns the nodes that are joined with a node, ascending, by some edges. It goes over all edges again and again.
func reached(n int, edges [][2]int, start int) []int {
	in := make([]bool, n)
	in[start] = true
	for more := true; more; {
		more = false
		for _, ends := range edges {
			if in[ends[0]] != in[ends[1]] {
				in[ends[0]], in[ends[1]] = true, true
				more = true
			}
		}
	}
	var nodes []int
	for node, is := range in {
		if is {
			nodes = append(nodes, node)
		}
	}
	return nodes
}

// without returns a copy of some edges without one of them.
func without(edges [][2]int, i int) [][2]int {
	return slices.Delete(slices.Clone(edges), i, i+1)
}

func TestP6_1Valid(t *testing.T) {
	for _, g := range slices.Concat(small(), large()) {
		if !Valid(g.n, g.edges) {
			t.Errorf("Valid(%d, %v) is false", g.n, g.edges)
		}
	}
	for _, g := range strangers {
		if Valid(g.n, g.edges) {
			t.Errorf("Valid(%d, %d edges) is true", g.n, len(g.edges))
		}
	}
	for n := -5; n < 1010; n++ {
		if Valid(n, nil) != (n >= 0 && n <= 1000) || Valid(n, [][2]int{{n - 1, 0}}) != (n >= 2 && n <= 1000) {
			t.Errorf("Valid with %d nodes is wrong", n)
		}
	}
	for a := -2; a <= 5; a++ {
		for b := -2; b <= 5; b++ {
			want := a != b && min(a, b) >= 0 && max(a, b) < 4
			if Valid(4, [][2]int{{a, b}}) != want || Valid(4, append(slices.Clone(square.edges), [2]int{a, b})) != want {
				t.Errorf("Valid with 4 nodes and the edge %d %d is not %t", a, b, want)
			}
		}
	}
}

func TestP6_1Parts(t *testing.T) {
	for _, c := range []struct {
		g    network
		want [][]int
	}{
		{network{}, nil}, {network{1, nil}, [][]int{{0}}}, {network{3, nil}, [][]int{{0}, {1}, {2}}},
		{square, [][]int{{0, 1, 2, 3}}}, {eight, [][]int{{0, 1, 2, 3, 4, 5}, {6, 7}, {8}}},
		{network{6, [][2]int{{5, 3}, {4, 2}, {3, 0}}}, [][]int{{0, 3, 5}, {1}, {2, 4}}},
		{network{6, [][2]int{{5, 4}, {4, 5}, {0, 5}}}, [][]int{{0, 4, 5}, {1}, {2}, {3}}},
		{network{6, [][2]int{{4, 5}, {2, 3}, {0, 1}, {3, 4}}}, [][]int{{0, 1}, {2, 3, 4, 5}}},
	} {
		if got, e := Parts(c.g.n, c.g.edges); !sameLists(got, c.want) || e != api.OK {
			t.Errorf("Parts(%d, %v) = %v, %d", c.g.n, c.g.edges, got, e)
		}
	}
}

func TestP6_1PartsOfAll(t *testing.T) {
	for _, g := range slices.Concat(small(), large()) {
		var want [][]int
		in := make([]bool, g.n)
		for node := range g.n {
			if in[node] {
				continue
			}
			part := reached(g.n, g.edges, node)
			for _, other := range part {
				in[other] = true
			}
			want = append(want, part)
		}
		if got, e := Parts(g.n, g.edges); !sameLists(got, want) || e != api.OK {
			t.Errorf("Parts(%d, %v) = %v, %d, not %v", g.n, g.edges, got, e, want)
		}
	}
}

func TestP6_1Forest(t *testing.T) {
	for _, c := range []struct {
		g    network
		want []int
	}{
		{network{}, nil}, {network{7, nil}, nil}, {network{2, [][2]int{{1, 0}}}, []int{0}}, {network{2, [][2]int{{1, 0}, {0, 1}, {1, 0}}}, []int{0}},
		{square, []int{0, 1, 3}}, {eight, []int{0, 1, 3, 4, 5, 8}},
		{network{4, [][2]int{{2, 3}, {3, 2}, {0, 1}, {1, 2}, {0, 3}}}, []int{0, 2, 3}},
		{network{5, [][2]int{{4, 3}, {3, 2}, {2, 4}, {1, 4}, {0, 1}, {0, 2}}}, []int{0, 1, 3, 4}},
	} {
		if got, e := Forest(c.g.n, c.g.edges); !same(got, c.want) || e != api.OK {
			t.Errorf("Forest(%d, %v) = %v, %d", c.g.n, c.g.edges, got, e)
		}
	}
}

func TestP6_1ForestOfAll(t *testing.T) {
	for _, g := range slices.Concat(small(), large()) {
		got, e := Forest(g.n, g.edges)
		if !slices.IsSorted(got) || e != api.OK {
			t.Errorf("Forest(%d, %v) = %v, %d", g.n, g.edges, got, e)
		}
		step := 1 + len(g.edges)/100
		for i := len(g.edges) - 1; i >= 0; i -= step {
			ends := g.edges[i]
			want := !slices.Contains(reached(g.n, g.edges[:i], ends[0]), ends[1])
			if slices.Contains(got, i) != want {
				t.Errorf("Forest(%d, %v) = %v: %d is wrong", g.n, g.edges, got, i)
			}
		}
	}
}

func TestP6_1NoGraph(t *testing.T) {
	for _, g := range strangers {
		if l, e := Parts(g.n, g.edges); l != nil || e != api.ErrArg {
			t.Errorf("Parts of no graph: %v, %d", l, e)
		}
		if l, e := Forest(g.n, g.edges); l != nil || e != api.ErrArg {
			t.Errorf("Forest of no graph: %v, %d", l, e)
		}
	}
}
