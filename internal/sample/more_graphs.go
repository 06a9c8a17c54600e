package sample

import (
	"slices"

	"lampwright/api"
)

// SmallGraphs are all graphs with at most 3 nodes, and some with 4.
func SmallGraphs() []api.Graph {
	var all []api.Graph
	for n := range 4 {
		all = append(all, Graphs(n)...)
	}
	for i, g := range Graphs(4) {
		if i%17 == 0 {
			all = append(all, g)
		}
	}
	return all
}

// GreatGraphs have more nodes, up to as many as there may be.
func GreatGraphs() []api.Graph {
	return append(slices.Concat(MixedGraphs(), EdgeGraphs()), Circle(api.MaxNodes, 1), Circle(api.MaxNodes, 7, 30), Circle(60, 1, 2, 30), Line(api.MaxNodes), Fan(api.MaxNodes), Grid(8), pairs(50))
}

// Line has an arc from each node to the next one.
func Line(n int) api.Graph {
	g := Circle(n, 1)
	g.Next[n-1] = nil
	return g
}

// Fan has arcs from the last node to all nodes.
func Fan(n int) api.Graph {
	g := Full(n, 0)
	g.Next[n-1] = Steps(0, 1, n)
	return g
}

// Grid has n rows of n nodes, with an arc from each to the next one in its row and in its column, so that many paths are shortest.
func Grid(n int) api.Graph {
	g := Full(n*n, 0)
	for node := range g.Next {
		if node%n < n-1 {
			g.Next[node] = append(g.Next[node], node+1)
		}
		if node/n < n-1 {
			g.Next[node] = append(g.Next[node], node+n)
		}
	}
	return g
}

// pairs has an arc from each of the last n nodes to one of the first n, and no others.
func pairs(n int) api.Graph {
	g := Full(2*n, 0)
	for node := range n {
		g.Next[2*n-1-node] = []int{node}
	}
	return g
}

// AllFar returns the distances between all nodes: those over the first nodes alone, and then over one more, and so on.
func AllFar(g api.Graph) [][]int {
	const far = 1 << 20
	d := make([][]int, len(g.Next))
	for node, l := range g.Next {
		d[node] = slices.Repeat([]int{far}, len(d))
		for _, to := range l {
			d[node][to] = 1
		}
		d[node][node] = 0
	}
	for over := range d {
		for from := range d {
			for to := range d {
				d[from][to] = min(d[from][to], d[from][over]+d[over][to])
			}
		}
	}
	for _, row := range d {
		for to := range row {
			if row[to] >= far {
				row[to] = -1
			}
		}
	}
	return d
}

// Scattered returns a graph with n nodes and at most so many arcs, which no simple rule describes; with another seed, they are others.
func Scattered(n, arcs, seed int) api.Graph {
	g := Full(n, 0)
	state := uint64(seed)
	draw := func() int {
		state = state*6364136223846793005 + 1442695040888963407
		return int(state >> 33 % uint64(n))
	}
	for range arcs {
		from, to := draw(), draw()
		if !slices.Contains(g.Next[from], to) {
			g.Next[from] = append(g.Next[from], to)
			slices.Sort(g.Next[from])
		}
	}
	return g
}

// ScatteredGraphs have few or many arcs for their nodes.
func ScatteredGraphs() []api.Graph {
	var all []api.Graph
	for seed := range 12 {
		for _, n := range []int{5, 7, 10, 13} {
			all = append(all, Scattered(n, n+seed*n/3, 50*n+seed))
		}
	}
	for seed, arcs := range []int{40, 90, 110, 130, 160, 200, 300, 450, api.MaxArcs} {
		all = append(all, Scattered(api.MaxNodes, arcs, seed), Scattered(50, arcs, seed))
	}
	return all
}

// Onward returns the graph with only those arcs of another one that lead to a node of higher rank. No two nodes have the same rank, which depends on the factor: with 1, they are in their order; with MaxNodes, in the reverse order.
func Onward(g api.Graph, factor int) api.Graph {
	rank := func(node int) int { return (node + 1) * factor % (api.MaxNodes + 1) }
	on := Full(len(g.Next), 0)
	for from, l := range g.Next {
		for _, to := range l {
			if rank(from) < rank(to) {
				on.Next[from] = append(on.Next[from], to)
			}
		}
	}
	return on
}

// OnwardGraphs have no path from a node back to itself; their nodes are numbered in many ways.
func OnwardGraphs() []api.Graph {
	var all []api.Graph
	for i, g := range append(GreatGraphs(), ScatteredGraphs()...) {
		all = append(all, Onward(g, 1), Onward(g, api.MaxNodes), Onward(g, 7+i))
	}
	return all
}
