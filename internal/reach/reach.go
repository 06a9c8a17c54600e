// Package reach has how several layers follow arcs in the same way.
package reach

import "slices"

// None stands in place of a distance if there is no path.
const None = -1

// From returns for each node the number of arcs of a shortest path from s to it, or None. The lists can be in any order.
func From(next [][]int, s int) []int {
	far := slices.Repeat([]int{None}, len(next))
	far[s] = 0
	// Nodes are reached in the order of their distances, and each one is reached once.
	reached := []int{s}
	for i := 0; i < len(reached); i++ {
		node := reached[i]
		for _, to := range next[node] {
			if far[to] == None {
				far[to] = far[node] + 1
				reached = append(reached, to)
			}
		}
	}
	return far
}
