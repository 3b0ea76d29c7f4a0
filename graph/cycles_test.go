package graph

import (
	"math"
	"slices"
	"testing"

	"loftblock/api"
)

// ways returns all lists of edges, of those in a list, that go from a node to another one over different nodes.
func ways(edges [][2]int, list []int, from, to int, over []int) [][]int {
	if from == to {
		return [][]int{nil}
	}
	var all [][]int
	over = append(slices.Clone(over), from)
	for _, i := range list {
		ends := edges[i]
		if ends[1] == from {
			ends[0], ends[1] = ends[1], ends[0]
		}
		if ends[0] != from || slices.Contains(over, ends[1]) {
			continue
		}
		for _, way := range ways(edges, list, ends[1], to, over) {
			all = append(all, append([]int{i}, way...))
		}
	}
	return all
}

// isRound reports whether there are as many different nodes as edges in a list, beginning with some that were chosen, such that each edge joins its own node and the next one.
func isRound(g network, list, nodes []int) bool {
	joins := func(i int) bool {
		a, b := nodes[i], nodes[(i+1)%len(list)]
		ends := g.edges[list[i]]
		return ends == [2]int{a, b} || ends == [2]int{b, a}
	}
	if len(nodes) == len(list) {
		for i := range list {
			if !joins(i) || slices.Contains(list[:i], list[i]) {
				return false
			}
		}
		return len(list) >= 2
	}
	for node := range g.n {
		if !slices.Contains(nodes, node) && isRound(g, list, append(slices.Clone(nodes), node)) {
			return true
		}
	}
	return false
}

func TestP6_2Cycles(t *testing.T) {
	for _, c := range []struct {
		g    network
		want [][]int
	}{
		{network{}, nil}, {network{3, nil}, nil}, {network{3, [][2]int{{0, 1}, {1, 2}}}, nil},
		{square, [][]int{{2, 1, 0}}}, {eight, [][]int{{2, 1, 0}, {6, 5, 3}, {7, 4}}},
		{network{2, [][2]int{{0, 1}, {0, 1}, {1, 0}}}, [][]int{{1, 0}, {2, 0}}},
		{network{4, [][2]int{{0, 1}, {1, 2}, {2, 3}, {0, 3}}}, [][]int{{3, 2, 1, 0}}},
		{network{4, [][2]int{{0, 1}, {1, 2}, {2, 3}, {3, 0}}}, [][]int{{3, 0, 1, 2}}},
		{network{5, [][2]int{{0, 1}, {0, 2}, {1, 3}, {2, 4}, {4, 3}, {2, 1}}}, [][]int{{4, 2, 0, 1, 3}, {5, 0, 1}}},
		{network{6, [][2]int{{5, 4}, {0, 1}, {4, 5}, {1, 2}, {2, 0}, {1, 0}}}, [][]int{{2, 0}, {4, 1, 3}, {5, 1}}},
	} {
		if got, e := Cycles(c.g.n, c.g.edges); !sameLists(got, c.want) || e != api.OK {
			t.Errorf("Cycles(%d, %v) = %v, %d", c.g.n, c.g.edges, got, e)
		}
		if got, e := Count(c.g.n, c.g.edges); got != len(c.want) || e != api.OK {
			t.Errorf("Count(%d, %v) = %d, %d", c.g.n, c.g.edges, got, e)
		}
	}
}

func TestP6_2CyclesOfAll(t *testing.T) {
	for _, g := range small() {
		forest, _ := Forest(g.n, g.edges)
		var want [][]int
		for i, ends := range g.edges {
			if slices.Contains(forest, i) {
				continue
			}
			back := ways(g.edges, forest, ends[1], ends[0], nil)
			if len(back) != 1 {
				t.Fatalf("the forest of %v has %d paths from %d to %d", g, len(back), ends[1], ends[0])
			}
			want = append(want, append([]int{i}, back[0]...))
		}
		if got, e := Cycles(g.n, g.edges); !sameLists(got, want) || e != api.OK {
			t.Errorf("Cycles(%d, %v) = %v, %d, not %v", g.n, g.edges, got, e, want)
		}
		if got, e := Count(g.n, g.edges); got != len(want) || e != api.OK {
			t.Errorf("Count(%d, %v) = %d, %d", g.n, g.edges, got, e)
		}
	}
}

func TestP6_2CyclesOfLarge(t *testing.T) {
	for _, g := range large() {
		forest, _ := Forest(g.n, g.edges)
		cycles, e := Cycles(g.n, g.edges)
		if e != api.OK {
			t.Errorf("Cycles of a large graph: %d", e)
		}
		firsts := slices.Clone(forest)
		last := -1
		for _, cycle := range cycles {
			first, node := cycle[0], g.edges[cycle[0]][0]
			for _, i := range cycle {
				ends := g.edges[i]
				if node != ends[0] && node != ends[1] {
					t.Fatalf("the cycle %v leaves the edges at %d", cycle, i)
				}
				node = ends[0] + ends[1] - node
			}
			inForest := !slices.ContainsFunc(cycle[1:], func(i int) bool { _, is := slices.BinarySearch(forest, i); return !is })
			if node != g.edges[first][0] || first <= last || !inForest {
				t.Fatalf("the cycle %v comes after that of %d", cycle, last)
			}
			last = first
			firsts = append(firsts, first)
		}
		slices.Sort(firsts)
		if n, e := Count(g.n, g.edges); !same(firsts, indices(g.edges)) || n != len(cycles) || e != api.OK {
			t.Errorf("a large graph has %d cycles, %d edges outside the forest, and the count %d, %d", len(cycles), len(g.edges)-len(forest), n, e)
		}
	}
}

func TestP6_2Cycle(t *testing.T) {
	for _, c := range []struct {
		g    network
		list []int
		want bool
	}{
		{square, []int{2, 1, 0}, true}, {square, []int{0, 1, 2}, true}, {square, []int{1, 2, 0}, true}, {square, []int{1, 2, 3}, false}, {square, []int{0, 1, 3}, false},
		{square, []int{0, 1}, false}, {square, []int{0}, false}, {square, nil, false}, {square, []int{}, false}, {square, []int{0, 0}, false}, {square, []int{3, 3}, false}, {square, []int{0, 1, 1, 0}, false},
		{square, []int{0, 1, 2, 0, 1, 2}, false}, {square, []int{0, 1, 2, 3}, false}, {square, []int{3, 0, 1, 2}, false}, {square, []int{0, 0, 0}, false}, {square, []int{0, 1, 3, 3, 2}, false},
		{eight, []int{4, 7}, true}, {eight, []int{7, 4}, true}, {eight, []int{4, 7, 4}, false}, {eight, []int{4, 7, 4, 7}, false}, {eight, []int{4}, false}, {eight, []int{8, 8}, false},
		{eight, []int{0, 1, 2, 3, 5, 6}, false}, {eight, []int{2, 1, 0, 6, 5, 3}, false}, {eight, []int{3, 5, 6}, true}, {eight, []int{6, 5, 3}, true}, {eight, []int{3, 6, 4}, false}, {eight, []int{0, 1, 2, 4, 7}, false},
		{network{2, slices.Repeat([][2]int{{0, 1}}, 3)}, []int{0, 1, 2}, false}, {network{2, slices.Repeat([][2]int{{0, 1}}, 3)}, []int{0, 2}, true},
		{network{4, [][2]int{{0, 1}, {1, 2}, {2, 3}, {3, 0}}}, []int{0, 2, 1, 3}, false}, {network{4, [][2]int{{0, 1}, {2, 3}}}, []int{0, 1}, false}, {network{}, nil, false},
		{square, slices.Repeat([]int{0, 1, 2}, 100000), false}, {ring(indices(make([][2]int, 1000))), indices(make([][2]int, 1000)), true}, {ring(indices(make([][2]int, 1000))), indices(make([][2]int, 999)), false},
	} {
		if got, e := Cycle(c.g.n, c.g.edges, c.list); got != c.want || e != api.OK {
			t.Errorf("Cycle(%d, %v, %v) = %t, %d", c.g.n, c.g.edges, c.list, got, e)
		}
	}
}

// lists returns all lists of a length with numbers from 0 to n - 1.
func lists(length, n int) [][]int {
	all := [][]int{nil}
	for range length {
		var longer [][]int
		for _, list := range all {
			for i := range n {
				longer = append(longer, append(slices.Clone(list), i))
			}
		}
		all = longer
	}
	return all
}

func TestP6_2CycleOfAll(t *testing.T) {
	graphs := slices.Concat(everything(2, 3), everything(3, 3), []network{square, complete(4), ring([]int{2, 0, 3, 1})})
	next := numbers()
	for edges := range 6 {
		graphs = append(graphs, mixed(next, 4, edges, 3), mixed(next, 4, edges, 3), mixed(next, 4, edges, 1))
	}
	cycles := map[int]int{}
	for _, g := range graphs {
		for length := range 5 {
			for _, list := range lists(length, len(g.edges)) {
				want := isRound(g, list, nil)
				if got, e := Cycle(g.n, g.edges, list); got != want || e != api.OK {
					t.Errorf("Cycle(%d, %v, %v) = %t, %d", g.n, g.edges, list, got, e)
				}
				if want {
					cycles[length]++
				}
			}
		}
	}
	if cycles[2] < 100 || cycles[3] < 100 || cycles[4] < 20 || len(cycles) != 3 {
		t.Error(cycles)
	}
}

func TestP6_2CycleTurned(t *testing.T) {
	for _, g := range large()[4:7] {
		cycles, _ := Cycles(g.n, g.edges)
		for _, list := range cycles[:min(len(cycles), 50)] {
			for k := range min(len(list), 30) {
				turned := slices.Concat(list[k:], list[:k])
				back := slices.Clone(turned)
				slices.Reverse(back)
				for _, l := range [][]int{turned, back} {
					is, e := Cycle(g.n, g.edges, l)
					less, _ := Cycle(g.n, g.edges, l[1:])
					more, _ := Cycle(g.n, g.edges, append(slices.Clone(l), l[0]))
					if !is || e != api.OK || less || more {
						t.Errorf("%v is a cycle: %t, %d; with one edge less %t, with one more %t", l, is, e, less, more)
					}
				}
			}
		}
	}
}

func TestP6_2Errors(t *testing.T) {
	for _, g := range strangers {
		if l, e := Cycles(g.n, g.edges); l != nil || e != api.ErrArg {
			t.Errorf("Cycles of no graph: %v, %d", l, e)
		}
		if n, e := Count(g.n, g.edges); n != 0 || e != api.ErrArg {
			t.Errorf("Count of no graph: %d, %d", n, e)
		}
		for _, list := range [][]int{nil, {0, 1}, {-1}, {5000}, {2, 1, 0}} {
			if is, e := Cycle(g.n, g.edges, list); is || e != api.ErrArg {
				t.Errorf("Cycle of no graph: %t, %d", is, e)
			}
		}
	}
	for _, i := range []int{4, -1, 5, 1000, math.MinInt, math.MaxInt} {
		for _, list := range [][]int{{i}, {i, i}, {0, 0, i}, {2, 1, 0, i}, {i, 2, 1, 0}, {2, i, 0}, append(slices.Repeat([]int{1}, 100000), i)} {
			if is, e := Cycle(square.n, square.edges, list); is || e != api.ErrRange {
				t.Errorf("Cycle with the index %d is %t, %d", i, is, e)
			}
		}
	}
	for _, n := range []int{0, 1, 9} {
		if is, e := Cycle(n, nil, []int{0}); is || e != api.ErrRange {
			t.Errorf("Cycle without edges is %t, %d", is, e)
		}
	}
}
