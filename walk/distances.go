package walk

import (
	"slices"

	"lampwright/api"
	"lampwright/graph"
	"lampwright/internal/check"
)

// noPath stands in place of a distance if there is no path.
const noPath = -1

// checkNodes returns the error of a graph; else ErrRange if one of the numbers is not a node of it.
func checkNodes(g api.Graph, numbers ...int) api.Errno {
	isOutside := func(n int) bool { return n < 0 || n >= len(g.Next) }
	return check.Range(graph.Check(g), !slices.ContainsFunc(numbers, isOutside))
}

// distances returns for each node the number of arcs of a shortest path from s to it, or noPath. The lists can be in any order.
func distances(next [][]int, s int) []int {
	far := slices.Repeat([]int{noPath}, len(next))
	far[s] = 0
	// Nodes are reached in the order of their distances, and each one is reached once.
	reached := []int{s}
	for i := 0; i < len(reached); i++ {
		node := reached[i]
		for _, to := range next[node] {
			if far[to] == noPath {
				far[to] = far[node] + 1
				reached = append(reached, to)
			}
		}
	}
	return far
}

// bothWays returns for each node those to which an arc leads from it, and those from which one leads to it. These arcs can be more than a graph may have.
func bothWays(g api.Graph) ([][]int, api.Errno) {
	turned, err := graph.Turn(g)
	if err != api.OK {
		return nil, err
	}
	next := make([][]int, len(g.Next))
	for node := range next {
		next[node] = slices.Concat(g.Next[node], turned.Next[node])
	}
	return next, api.OK
}
