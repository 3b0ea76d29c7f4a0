package graph

import (
	"math"
	"slices"
)

// network is a graph by its number of nodes and its edges.
type network struct {
	n     int
	edges [][2]int
}

// numbers returns a function that returns one pseudo-random number after the other, always the same ones, from low to high.
func numbers() func(low, high int) int {
	state := uint64(1)
	return func(low, high int) int {
		state = state*6364136223846793005 + 1442695040888963407
		return low + int(state>>33)%(high-low+1)
	}
}

// same compares lists, of which nil is equal to an empty one.
func same(a, b []int) bool { return slices.Equal(a, b) }

func sameLists(a, b [][]int) bool { return slices.EqualFunc(a, b, same) }

// square is the example of the chapter: a triangle with a tail.
var square = network{4, [][2]int{{0, 1}, {1, 2}, {0, 2}, {2, 3}}}

// eight has two triangles that share the node 2, a pair of edges that joins 4 with 5, the nodes 6 and 7 apart, and 8 alone.
var eight = network{9, [][2]int{{2, 1}, {1, 0}, {2, 0}, {3, 2}, {4, 5}, {4, 3}, {2, 4}, {5, 4}, {7, 6}}}

// strangers are no graphs: because of the number of their nodes, of their edges, or an edge.
var strangers = []network{
	{-1, nil}, {1001, nil}, {math.MinInt, nil}, {math.MaxInt, nil}, {-2, [][2]int{{0, 1}}}, {1 << 32, nil}, {1001, [][2]int{{0, 1}}},
	{0, [][2]int{{0, 0}}}, {0, [][2]int{{0, 1}}}, {1, [][2]int{{0, 0}}}, {1, [][2]int{{0, 1}}}, {2, [][2]int{{1, 1}}}, {2, [][2]int{{0, 2}}}, {2, [][2]int{{2, 0}}}, {2, [][2]int{{2, 3}}},
	{2, [][2]int{{-1, 0}}}, {2, [][2]int{{0, -1}}}, {2, [][2]int{{math.MinInt, 1}}}, {2, [][2]int{{1, math.MaxInt}}}, {2, [][2]int{{-1, -2}}},
	{3, [][2]int{{0, 1}, {1, 2}, {2, 2}}}, {3, [][2]int{{0, 1}, {1, 2}, {2, 3}}}, {3, [][2]int{{-1, 1}, {1, 2}, {2, 0}}}, {1000, [][2]int{{999, 1000}}}, {1000, [][2]int{{999, 999}}},
	{2, slices.Repeat([][2]int{{0, 1}}, 4001)}, {2, slices.Repeat([][2]int{{1, 0}}, 5000)}, {1000, slices.Repeat([][2]int{{7, 8}}, 4001)}, {2, append(slices.Repeat([][2]int{{0, 1}}, 3999), [2]int{0, 0})},
}

// everything returns all graphs with n nodes and some number of edges.
func everything(n, edges int) []network {
	all := []network{{n, nil}}
	for range edges {
		var longer []network
		for _, g := range all {
			for a := range n {
				for b := range n {
					if a != b {
						longer = append(longer, network{n, append(slices.Clone(g.edges), [2]int{a, b})})
					}
				}
			}
		}
		all = longer
	}
	return all
}

// mixed returns a graph whose edges join nodes that are at most reach apart.
func mixed(next func(low, high int) int, n, edges, reach int) network {
	g := network{n: n}
	for range edges {
		a := next(0, n-1)
		b := (a + next(1, min(reach, n-1))) % n
		if next(0, 1) == 0 {
			a, b = b, a
		}
		g.edges = append(g.edges, [2]int{a, b})
	}
	return g
}

// small returns graphs of few nodes, for which all can be found by trying.
func small() []network {
	list := []network{{0, nil}, {0, [][2]int{}}, {1, nil}, {2, nil}, {5, nil}, square, eight}
	for n := 2; n <= 4; n++ {
		for edges := range 4 {
			list = append(list, everything(n, edges)...)
		}
	}
	list = append(list, everything(3, 4)...)
	list = append(list, everything(2, 7)...)
	next := numbers()
	for n := 3; n <= 10; n++ {
		for edges := range 16 {
			for k := range 6 {
				list = append(list, mixed(next, n, edges, 1+k%3))
			}
			list = append(list, mixed(next, n, edges, n))
		}
	}
	return list
}

// line returns a graph whose nodes are joined one after the other, in a given order.
func line(order []int) network {
	g := network{n: len(order)}
	for i := range len(order) - 1 {
		g.edges = append(g.edges, [2]int{order[i], order[i+1]})
	}
	return g
}

// ring returns a line whose last node is joined with its first one.
func ring(order []int) network {
	g := line(order)
	g.edges = append(g.edges, [2]int{order[len(order)-1], order[0]})
	return g
}

// shuffled returns the numbers from 0 to n - 1 in a pseudo-random order.
func shuffled(next func(low, high int) int, n int) []int {
	order := indices(make([][2]int, n))
	for i := range order {
		j := next(0, i)
		order[i], order[j] = order[j], order[i]
	}
	return order
}

// complete returns a graph any two nodes of which are joined by an edge.
func complete(n int) network {
	g := network{n: n}
	for b := range n {
		for a := range b {
			g.edges = append(g.edges, [2]int{a, b})
		}
	}
	return g
}

// large returns graphs as large as they may be, or nearly so.
func large() []network {
	next := numbers()
	rising := indices(make([][2]int, 1000))
	falling := slices.Clone(rising)
	slices.Reverse(falling)
	list := []network{{1000, nil}, line(rising), line(falling), line(shuffled(next, 1000)), ring(rising), ring(shuffled(next, 1000)), complete(89)}
	star := network{n: 1000}
	for node := range 999 {
		star.edges = append(star.edges, [2]int{node, 999})
	}
	several := ring(shuffled(next, 1000))
	several.edges = slices.Concat(several.edges, several.edges, several.edges, several.edges)
	list = append(list, star, several, network{2, slices.Repeat([][2]int{{0, 1}, {1, 0}}, 2000)}, network{1000, slices.Repeat([][2]int{{998, 999}}, 4000)})
	for _, edges := range []int{300, 900, 1100, 1500, 4000} {
		list = append(list, mixed(next, 1000, edges, 1000), mixed(next, 1000, edges, 2))
	}
	return list
}
