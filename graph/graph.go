// Package graph is layer 6: undirected graphs: parts, forests, cycles, bridges, and paths; see shared/doc/06-graph.md.
package graph

import (
	"slices"

	"loftblock/api"
)

const (
	maxNodes = 1000
	maxEdges = 4000
)

// Valid reports whether there are n nodes and these edges in a graph within the limits.
func Valid(n int, edges [][2]int) bool {
	if n < 0 || n > maxNodes || len(edges) > maxEdges {
		return false
	}
	return !slices.ContainsFunc(edges, func(ends [2]int) bool {
		return ends[0] == ends[1] || !within(n, ends[:]...)
	})
}

// Parts returns the greatest sets of joined nodes, in the order of their first nodes.
func Parts(n int, edges [][2]int) ([][]int, api.Errno) {
	if !Valid(n, edges) {
		return nil, api.ErrArg
	}
	s, _ := grown(n, edges)
	parts := make([][]int, n)
	for node := range n {
		root := s.root(node)
		parts[root] = append(parts[root], node)
	}
	// The root of a part is its first node, so the parts that are left have the right order.
	return slices.DeleteFunc(parts, func(part []int) bool { return len(part) == 0 }), api.OK
}

// Forest returns the indices of the edges whose ends are not joined by edges with lesser indices.
func Forest(n int, edges [][2]int) ([]int, api.Errno) {
	if !Valid(n, edges) {
		return nil, api.ErrArg
	}
	_, forest := grown(n, edges)
	return forest, api.OK
}

// Cycles returns the cycle of each edge that is not in the forest.
func Cycles(n int, edges [][2]int) ([][]int, api.Errno) {
	if !Valid(n, edges) {
		return nil, api.ErrArg
	}
	_, forest := grown(n, edges)
	path := walker(n, edges, forest)
	var cycles [][]int
	for i, ends := range edges {
		if _, inForest := slices.BinarySearch(forest, i); !inForest {
			cycles = append(cycles, slices.Insert(path(ends[1], ends[0]), 0, i))
		}
	}
	return cycles, api.OK
}

// Bridges returns the indices of the edges without which their ends are not joined.
func Bridges(n int, edges [][2]int) ([]int, api.Errno) {
	if !Valid(n, edges) {
		return nil, api.ErrArg
	}
	s := searched(n, edges, indices(edges))
	slices.Sort(s.bridges)
	return s.bridges, api.OK
}

// Path returns, of the paths from a to b with the fewest edges, the one that is first lexicographically.
func Path(n int, edges [][2]int, a, b int) ([]int, api.Errno) {
	switch {
	case !Valid(n, edges):
		return nil, api.ErrArg
	case !within(n, a, b):
		return nil, api.ErrRange
	}
	at := around(n, edges, indices(edges))
	left := distances(edges, at, b)
	if left[a] == apart {
		return nil, api.ErrNone
	}
	var path []int
	for node := a; node != b; {
		// The edges at a node are ascending, so the first one that leads nearer is the least.
		nearer := slices.IndexFunc(at[node], func(edge int) bool { return left[other(edges[edge], node)] == left[node]-1 })
		edge := at[node][nearer]
		path = append(path, edge)
		node = other(edges[edge], node)
	}
	return path, api.OK
}

// Count returns the number of the edges that are not in the forest, each of which has a cycle.
func Count(n int, edges [][2]int) (int, api.Errno) {
	if !Valid(n, edges) {
		return 0, api.ErrArg
	}
	_, forest := grown(n, edges)
	return len(edges) - len(forest), api.OK
}

// Cycle reports whether a list of indices of edges is a cycle.
func Cycle(n int, edges [][2]int, list []int) (bool, api.Errno) {
	switch {
	case !Valid(n, edges):
		return false, api.ErrArg
	case !within(len(edges), list...):
		return false, api.ErrRange
	}
	// More than two edges differ anyway if they go over as many different nodes.
	if len(list) < 2 || list[0] == list[1] {
		return false, api.OK
	}
	first := edges[list[0]]
	return goesRound(n, edges, list, first[0]) || goesRound(n, edges, list, first[1]), api.OK
}

// goesRound reports whether the edges of a list, one after the other, go from a node over different nodes back to it.
func goesRound(n int, edges [][2]int, list []int, start int) bool {
	met := make([]bool, n)
	node := start
	for _, edge := range list {
		ends := edges[edge]
		if met[node] || !slices.Contains(ends[:], node) {
			return false
		}
		met[node] = true
		node = other(ends, node)
	}
	return node == start
}

// within reports whether all numbers are indices of a list with n elements.
func within(n int, numbers ...int) bool {
	return !slices.ContainsFunc(numbers, func(i int) bool { return i < 0 || i >= n })
}

// indices returns the indices of all edges.
func indices(edges [][2]int) []int {
	list := make([]int, len(edges))
	for i := range list {
		list[i] = i
	}
	return list
}

// other returns the other one of two ends.
func other(ends [2]int, end int) int {
	if ends[0] == end {
		return ends[1]
	}
	return ends[0]
}
