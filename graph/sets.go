package graph

// sets is a disjoint-set forest: for each node, another node of its set that is nearer to the root, or the node itself if it is the root, which is the first node of the set.
type sets []int

// newSets returns n sets of one node each.
func newSets(n int) sets {
	s := make(sets, n)
	for node := range s {
		s[node] = node
	}
	return s
}

// root returns the first node of the set of a node. Later ways from there to the root have half the length.
func (s sets) root(node int) int {
	for s[node] != node {
		s[node] = s[s[node]]
		node = s[node]
	}
	return node
}

// join joins the sets of two nodes, and reports whether they were two sets.
func (s sets) join(a, b int) bool {
	a, b = s.root(a), s.root(b)
	s[max(a, b)] = min(a, b)
	return a != b
}

// grown returns the sets of joined nodes, and the edges of the forest, which joined them.
func grown(n int, edges [][2]int) (sets, []int) {
	s := newSets(n)
	var forest []int
	for i, ends := range edges {
		if s.join(ends[0], ends[1]) {
			forest = append(forest, i)
		}
	}
	return s, forest
}
