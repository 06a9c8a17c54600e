package graph

import (
	"iter"
	"slices"

	"lampwright/api"
	"lampwright/internal/check"
)

// isNodeOf returns what reports whether a number is a node, if there are that many nodes.
func isNodeOf(nodes int) func(n int) bool {
	return func(n int) bool { return 0 <= n && n < nodes }
}

// checkArcs returns the error of the first arc that has one.
func checkArcs(l []api.Arc, isNode func(n int) bool) api.Errno {
	before := map[api.Arc]bool{}
	return check.Each(l, func(arc api.Arc) api.Errno {
		if !isNode(arc.From) || !isNode(arc.To) {
			return api.ErrRange
		}
		if before[arc] {
			return api.ErrTwice
		}
		before[arc] = true
		return api.OK
	})
}

// arcsOf visits the arcs of a graph, those from the first node first.
func arcsOf(g api.Graph) iter.Seq[api.Arc] {
	return func(yield func(api.Arc) bool) {
		for from, l := range g.Next {
			for _, to := range l {
				if !yield(api.Arc{From: from, To: to}) {
					return
				}
			}
		}
	}
}

// reversed visits the reverse of each arc.
func reversed(arcs iter.Seq[api.Arc]) iter.Seq[api.Arc] {
	return func(yield func(api.Arc) bool) {
		for arc := range arcs {
			if !yield(reverse(arc)) {
				return
			}
		}
	}
}

func reverse(arc api.Arc) api.Arc { return api.Arc{From: arc.To, To: arc.From} }

// withArcs returns the graph with these arcs, whatever their order.
func withArcs(nodes int, arcs iter.Seq[api.Arc]) api.Graph {
	g := api.Graph{Next: make([][]int, nodes)}
	for arc := range arcs {
		g.Next[arc.From] = append(g.Next[arc.From], arc.To)
	}
	for _, l := range g.Next {
		slices.Sort(l)
	}
	return g
}
