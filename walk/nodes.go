package walk

import (
	"slices"

	"lampwright/api"
	"lampwright/graph"
	"lampwright/internal/check"
)

// checkNodes returns the error of a graph; else ErrRange if one of the numbers is not a node of it.
func checkNodes(g api.Graph, numbers ...int) api.Errno {
	isOutside := func(n int) bool { return n < 0 || n >= len(g.Next) }
	return check.Range(graph.Check(g), !slices.ContainsFunc(numbers, isOutside))
}

// bothWays returns for each node those to which an arc leads from it, and those from which one leads to it. These arcs can be more than a graph may have.
func bothWays(g api.Graph) ([][]int, api.Errno) {
	turned, err := graph.Turn(g)
	if err != api.OK {
		return nil, err
	}
	next := make([][]int, len(g.Next))
	for node := range next {
		next[node] = slices.Concat(g.Next[node], turned.Next[node])
	}
	return next, api.OK
}
