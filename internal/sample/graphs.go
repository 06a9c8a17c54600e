package sample

import (
	"math"
	"slices"

	"lampwright/api"
)

// Graph returns the graph with these lists.
func Graph(next ...[]int) api.Graph { return api.Graph{Next: next} }

// SameGraph reports whether two graphs have the same nodes, and each of them the same list.
func SameGraph(a, b api.Graph) bool { return slices.EqualFunc(a.Next, b.Next, slices.Equal) }

// Graphs returns all graphs with n nodes.
func Graphs(n int) []api.Graph {
	all := []api.Graph{{}}
	for range n {
		var longer []api.Graph
		for _, g := range all {
			for _, l := range Rising(n) {
				longer = append(longer, Graph(append(slices.Clip(g.Next), l)...))
			}
		}
		all = longer
	}
	return all
}

// MixedGraphs returns graphs in which lists are like others or not, with runs and without.
func MixedGraphs() []api.Graph {
	return []api.Graph{
		Graph([]int{1, 2}, []int{3}, []int{3}, nil),
		Graph([]int{1}, []int{2}, []int{3}, []int{0, 4}, nil, []int{4, 6}, []int{5}),
		Graph([]int{1, 2, 3, 5}, []int{1, 2, 3, 5}, []int{0, 1, 2, 3, 5}, nil, []int{4}, []int{1, 2, 3}),
		Graph(Steps(0, 1, 9), nil, Steps(0, 2, 5), Steps(1, 2, 4), Steps(2, 1, 6), []int{0, 1, 2, 7}, []int{7}, Steps(0, 1, 9), nil),
		Circle(12, 1, 2, 5, 6),
		Circle(40, 0, 3),
	}
}

// Circle returns a graph with n nodes, and for each of them arcs to the nodes that are these distances after it, where the first one comes again after the last one.
func Circle(n int, distances ...int) api.Graph {
	g := api.Graph{Next: make([][]int, n)}
	for node := range g.Next {
		for _, d := range distances {
			g.Next[node] = append(g.Next[node], (node+d)%n)
		}
		slices.Sort(g.Next[node])
	}
	return g
}

// Full returns a graph with n nodes of which the first ones, as many as from says, have arcs to all nodes.
func Full(n, from int) api.Graph {
	g := api.Graph{Next: make([][]int, n)}
	for node := range from {
		g.Next[node] = Steps(0, 1, n)
	}
	return g
}

// EdgeGraphs returns graphs with as few and as many nodes and arcs as there may be, and others near to them.
func EdgeGraphs() []api.Graph {
	const nodes = api.MaxNodes
	less, last := Full(nodes, 6), Full(nodes, 0)
	less.Next[5] = less.Next[5][1:]
	last.Next[nodes-1] = Steps(0, 1, nodes)
	return []api.Graph{
		{},
		Graph(nil),
		Graph([]int{0}),
		Circle(nodes-1, 0),
		Full(nodes, 0),
		Full(nodes, 6),
		less,
		last,
		Full(24, 24),
		Circle(nodes, 0, 1, 2, 3, 4, 5),
		Circle(nodes, 1, 20, 40, 50, 77, 99),
		Circle(25, Steps(1, 1, 24)...),
	}
}

// WrongGraph is one that is not right, and the error that says so.
type WrongGraph struct {
	Graph api.Graph
	Err   api.Errno
}

// WrongGraphs returns graphs with each error that they can have.
func WrongGraphs() []WrongGraph {
	all := append(wrongNodes(), wrongMany()...)
	return append(all,
		WrongGraph{Graph([]int{0, 0}), api.ErrState},
		WrongGraph{Graph([]int{1, 0}, nil), api.ErrState},
		WrongGraph{Graph(nil, []int{0, 1, 1}), api.ErrState},
		WrongGraph{Graph(nil, []int{0, 2, 1}, nil), api.ErrState},
		WrongGraph{Graph(make([]int, 1<<20)), api.ErrState},
		// The first element with an error determines it, and of its errors it is ErrRange.
		WrongGraph{Graph([]int{1, 1}, []int{2}), api.ErrState},
		WrongGraph{Graph([]int{2}, []int{1, 1}), api.ErrRange},
		WrongGraph{Graph([]int{1, 0, 2}, nil), api.ErrState},
		WrongGraph{Graph([]int{2, 1, 0}, nil), api.ErrRange},
		WrongGraph{Graph([]int{1, -1}, nil), api.ErrRange},
		WrongGraph{Graph([]int{-1, -1}, nil), api.ErrRange},
	)
}

// wrongNodes returns graphs with lists of what is not a node.
func wrongNodes() []WrongGraph {
	var all []WrongGraph
	for _, n := range []int{1, 2, 5, api.MaxNodes} {
		for _, bad := range []int{math.MinInt, -1, n, n + 1, api.MaxNode, math.MaxInt} {
			for _, at := range []int{0, n / 2, n - 1} {
				alone, last := Full(n, 0), Full(n, 1)
				alone.Next[at] = []int{bad}
				last.Next[n-1] = append(Steps(0, 1, at), bad)
				all = append(all, WrongGraph{alone, api.ErrRange}, WrongGraph{last, api.ErrRange})
			}
		}
	}
	return append(all, WrongGraph{Graph(Steps(0, 1, 1<<20)), api.ErrRange})
}

// wrongMany returns graphs with more nodes or arcs than there may be. Other errors come after the number of nodes, but before that of the arcs.
func wrongMany() []WrongGraph {
	nodes := Circle(api.MaxNodes+1, 1)
	unordered := Graph(slices.Concat([][]int{{2, 1}}, nodes.Next)...)
	outside := Graph(slices.Concat([][]int{{-1}}, nodes.Next)...)
	arcs := Full(api.MaxNodes, 6)
	arcs.Next[api.MaxNodes-1] = []int{5}
	all := []WrongGraph{{Full(api.MaxNodes+1, 0), api.ErrMany}, {nodes, api.ErrMany}, {unordered, api.ErrMany}, {outside, api.ErrMany}, {arcs, api.ErrMany}, {Full(25, 25), api.ErrMany}, {Full(api.MaxNodes, api.MaxNodes), api.ErrMany}}
	for _, last := range []struct {
		l   []int
		err api.Errno
	}{{[]int{5, 5}, api.ErrState}, {[]int{5, 4}, api.ErrState}, {[]int{-1}, api.ErrRange}, {[]int{5, api.MaxNodes}, api.ErrRange}} {
		g := Full(api.MaxNodes, api.MaxNodes-1)
		g.Next[api.MaxNodes-1] = last.l
		all = append(all, WrongGraph{g, last.err})
	}
	return all
}

// OddGraphs returns right and wrong graphs.
func OddGraphs() []api.Graph {
	all := slices.Concat(MixedGraphs(), EdgeGraphs())
	for _, w := range WrongGraphs() {
		all = append(all, w.Graph)
	}
	return all
}
