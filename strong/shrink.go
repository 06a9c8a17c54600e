package strong

import (
	"lampwright/api"
	"lampwright/graph"
)

// numbered returns for each node the number of its part, if the parts are numbered in the order of their smallest nodes, and the number of parts.
func numbered(parts []int) ([]int, int) {
	numbers := make([]int, len(parts))
	many := 0
	for node, part := range parts {
		if part == node {
			numbers[node] = many
			many++
			continue
		}
		// The smallest node of a part comes before its other ones.
		numbers[node] = numbers[part]
	}
	return numbers, many
}

// between returns the arcs that lead from one part of a graph to a different one, each one once.
func between(g api.Graph, numbers []int) []api.Arc {
	// The graph has been checked, so that there is no error.
	arcs, _ := graph.Arcs(g)
	before := map[api.Arc]bool{}
	var l []api.Arc
	for _, arc := range arcs {
		part := api.Arc{From: numbers[arc.From], To: numbers[arc.To]}
		if part.From != part.To && !before[part] {
			before[part] = true
			l = append(l, part)
		}
	}
	return l
}
