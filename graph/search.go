package graph

import "slices"

const (
	// apart is the distance of a node that is not joined.
	apart = -1
	// noEdge is in the place of the edge that leads to the first node of a part.
	noEdge = -1
)

// around returns for each node the edges that it is an end of, of those in a list of indices, in the order of the list.
func around(n int, edges [][2]int, list []int) [][]int {
	at := make([][]int, n)
	for _, edge := range list {
		for _, end := range edges[edge] {
			at[end] = append(at[end], edge)
		}
	}
	return at
}

// distances returns for each node with how few edges the node start is reached from it.
func distances(edges [][2]int, at [][]int, start int) []int {
	from := slices.Repeat([]int{apart}, len(at))
	from[start] = 0
	queue := []int{start}
	for len(queue) > 0 {
		node := queue[0]
		queue = queue[1:]
		for _, edge := range at[node] {
			if next := other(edges[edge], node); from[next] == apart {
				from[next] = from[node] + 1
				queue = append(queue, next)
			}
		}
	}
	return from
}

// search is a depth-first search of all nodes over some edges.
type search struct {
	edges   [][2]int
	at      [][]int
	visited int   // how many nodes were visited
	first   []int // the number of the first visit of each node, from 1 on; 0 before it
	up      []int // the edge over which each node was visited first
	bridges []int
}

// searched returns a search over the edges in a list of indices, when it has visited all nodes.
func searched(n int, edges [][2]int, list []int) *search {
	s := &search{edges: edges, at: around(n, edges, list), first: make([]int, n), up: make([]int, n)}
	for node := range n {
		if s.first[node] == 0 {
			s.visit(node, noEdge)
		}
	}
	return s
}

// visit visits a node over an edge, and then all nodes that can be reached from it for the first time. It returns the least number among these and the nodes to which they have another edge than that.
func (s *search) visit(node, up int) int {
	s.visited++
	s.first[node], s.up[node] = s.visited, up
	least := s.visited
	for _, edge := range s.at[node] {
		if edge == up {
			continue
		}
		next := other(s.edges[edge], node)
		reached := s.first[next]
		if reached == 0 {
			reached = s.visit(next, edge)
			// No other edge leads back from there.
			if reached > s.first[node] {
				s.bridges = append(s.bridges, edge)
			}
		}
		least = min(least, reached)
	}
	return least
}

// walker returns a function that returns the path in a forest from a node to another one that is joined with it.
func walker(n int, edges [][2]int, forest []int) func(from, to int) []int {
	s := searched(n, edges, forest)
	return func(from, to int) []int {
		var ahead, back []int
		for from != to {
			// All nodes above a node were visited before it, so the path goes up from the one that was visited later.
			if s.first[from] > s.first[to] {
				ahead = append(ahead, s.up[from])
				from = other(edges[s.up[from]], from)
			} else {
				back = append(back, s.up[to])
				to = other(edges[s.up[to]], to)
			}
		}
		slices.Reverse(back)
		return append(ahead, back...)
	}
}
