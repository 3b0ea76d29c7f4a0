package graph

import (
	"math"
	"slices"
	"testing"

	"loftblock/api"
)

func TestP6_3Bridges(t *testing.T) {
	for _, c := range []struct {
		g    network
		want []int
	}{
		{network{}, nil}, {network{5, nil}, nil}, {square, []int{3}}, {eight, []int{8}}, {network{2, [][2]int{{1, 0}}}, []int{0}},
		{network{2, [][2]int{{1, 0}, {0, 1}}}, nil}, {network{2, [][2]int{{1, 0}, {1, 0}, {1, 0}}}, nil},
		{network{4, [][2]int{{2, 3}, {1, 2}, {0, 1}}}, []int{0, 1, 2}}, {network{4, [][2]int{{2, 3}, {1, 2}, {0, 1}, {3, 0}}}, nil},
		{network{6, [][2]int{{0, 3}, {3, 4}, {4, 5}, {5, 3}, {0, 1}, {1, 2}, {2, 0}}}, []int{0}},
		{network{5, [][2]int{{0, 1}, {1, 2}, {2, 1}, {2, 3}, {4, 0}}}, []int{0, 3, 4}},
	} {
		if got, e := Bridges(c.g.n, c.g.edges); !same(got, c.want) || e != api.OK {
			t.Errorf("Bridges(%d, %v) = %v, %d", c.g.n, c.g.edges, got, e)
		}
	}
}

func TestP6_3BridgesOfAll(t *testing.T) {
	bridges := 0
	for _, g := range slices.Concat(small(), large()) {
		got, e := Bridges(g.n, g.edges)
		if !slices.IsSorted(got) || len(slices.Compact(slices.Clone(got))) != len(got) || e != api.OK {
			t.Errorf("Bridges(%d, %v) = %v, %d", g.n, g.edges, got, e)
		}
		bridges += len(got)
		step := 1 + len(g.edges)/150
		for i := 0; i < len(g.edges); i += step {
			want := !slices.Contains(reached(g.n, without(g.edges, i), g.edges[i][0]), g.edges[i][1])
			if slices.Contains(got, i) != want {
				t.Errorf("Bridges(%d, %v) = %v: %d is wrong", g.n, g.edges, got, i)
			}
		}
	}
	if bridges < 5000 {
		t.Error(bridges)
	}
}

func TestP6_3Path(t *testing.T) {
	parallel := network{3, [][2]int{{1, 2}, {1, 0}, {0, 1}, {2, 1}, {0, 1}}}
	wheel := network{6, [][2]int{{0, 4}, {3, 5}, {0, 2}, {2, 5}, {1, 5}, {1, 0}, {4, 5}, {0, 3}}}
	for _, c := range []struct {
		g    network
		a, b int
		want []int
		e    api.Errno
	}{
		{square, 0, 3, []int{2, 3}, api.OK}, {square, 3, 0, []int{3, 2}, api.OK}, {square, 1, 3, []int{1, 3}, api.OK}, {square, 0, 1, []int{0}, api.OK}, {square, 2, 2, nil, api.OK},
		{eight, 0, 5, []int{2, 6, 4}, api.OK}, {eight, 5, 0, []int{4, 6, 2}, api.OK}, {eight, 7, 6, []int{8}, api.OK}, {eight, 8, 8, nil, api.OK},
		{eight, 0, 6, nil, api.ErrNone}, {eight, 8, 0, nil, api.ErrNone}, {network{2, nil}, 1, 0, nil, api.ErrNone}, {network{1, nil}, 0, 0, nil, api.OK},
		{parallel, 0, 2, []int{1, 0}, api.OK}, {parallel, 2, 0, []int{0, 1}, api.OK}, {parallel, 1, 2, []int{0}, api.OK}, {parallel, 0, 1, []int{1}, api.OK},
		// Of the four ways, that over 4 has the least first edge, and back that over 3.
		{wheel, 0, 5, []int{0, 6}, api.OK}, {wheel, 5, 0, []int{1, 7}, api.OK}, {wheel, 4, 2, []int{0, 2}, api.OK}, {wheel, 3, 1, []int{1, 4}, api.OK},
	} {
		if got, e := Path(c.g.n, c.g.edges, c.a, c.b); !same(got, c.want) || e != c.e {
			t.Errorf("Path(%d, %v, %d, %d) = %v, %d", c.g.n, c.g.edges, c.a, c.b, got, e)
		}
	}
}

// shortest returns for each node the least of the shortest lists of edges that lead to a node, and nil where there is none: it makes the lists longer edge by edge.
func shortest(g network, to int) [][]int {
	found := make([][]int, g.n)
	lists := make([][]int, g.n)
	lists[to] = []int{}
	for range g.n {
		longer := make([][]int, g.n)
		for node, list := range lists {
			if list == nil {
				continue
			}
			if found[node] == nil {
				found[node] = list
			}
			for i, ends := range g.edges {
				if ends[0] != node && ends[1] != node {
					continue
				}
				before := ends[0] + ends[1] - node
				if l := slices.Insert(slices.Clone(list), 0, i); longer[before] == nil || slices.Compare(l, longer[before]) < 0 {
					longer[before] = l
				}
			}
		}
		lists = longer
	}
	return found
}

func TestP6_3PathOfAll(t *testing.T) {
	list := small()
	next := numbers()
	for edges := 10; edges < 80; edges += 5 {
		list = append(list, mixed(next, 25, edges, 2), mixed(next, 25, edges, 4), mixed(next, 25, edges, 25))
	}
	joined := 0
	for _, g := range list {
		for b := range g.n {
			for a, want := range shortest(g, b) {
				got, e := Path(g.n, g.edges, a, b)
				switch {
				case want == nil && (got != nil || e != api.ErrNone), want != nil && (!same(got, want) || e != api.OK):
					t.Errorf("Path(%d, %v, %d, %d) = %v, %d, not %v", g.n, g.edges, a, b, got, e, want)
				case len(want) > 1:
					joined++
				}
			}
		}
	}
	if joined < 10000 {
		t.Error(joined)
	}
}

func TestP6_3PathOfLarge(t *testing.T) {
	rising := indices(make([][2]int, 999))
	falling := slices.Clone(rising)
	slices.Reverse(falling)
	row := line(indices(make([][2]int, 1000)))
	around := ring(indices(make([][2]int, 1000)))
	for _, c := range []struct {
		g    network
		a, b int
		want []int
	}{
		{row, 0, 999, rising}, {row, 999, 0, falling}, {row, 400, 403, []int{400, 401, 402}}, {row, 999, 999, nil}, {around, 0, 999, []int{999}},
		{around, 0, 500, rising[:500]}, {around, 500, 0, falling[499:]}, {around, 0, 501, append([]int{999}, falling[:498]...)},
	} {
		if got, e := Path(c.g.n, c.g.edges, c.a, c.b); !same(got, c.want) || e != api.OK {
			t.Errorf("the path from %d to %d is %v, %d", c.a, c.b, got, e)
		}
	}
}

func TestP6_3Errors(t *testing.T) {
	for _, g := range strangers {
		if l, e := Bridges(g.n, g.edges); l != nil || e != api.ErrArg {
			t.Errorf("Bridges of no graph: %v, %d", l, e)
		}
		for _, ends := range [][2]int{{0, 0}, {0, 1}, {-1, 0}, {5000, 5000}} {
			if l, e := Path(g.n, g.edges, ends[0], ends[1]); l != nil || e != api.ErrArg {
				t.Errorf("Path of no graph: %v, %d", l, e)
			}
		}
	}
	for _, g := range []network{{0, nil}, {1, nil}, square, eight} {
		for _, wrong := range []int{g.n, -1, g.n + 1, 1000, math.MinInt, math.MaxInt} {
			for _, ends := range [][2]int{{wrong, 0}, {0, wrong}, {wrong, wrong}, {wrong, g.n - 1}, {g.n - 1, wrong}} {
				if l, e := Path(g.n, g.edges, ends[0], ends[1]); l != nil || e != api.ErrRange {
					t.Errorf("Path(%d, %v, %d, %d) = %v, %d", g.n, g.edges, ends[0], ends[1], l, e)
				}
			}
		}
	}
}
