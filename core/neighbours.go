package core

import (
	"iter"
	"slices"

	"lampwright/api"
	"lampwright/graph"
)

// nobody stands in place of the node with which a node is paired.
const nobody = -1

// pair has two neighbours, the lesser one first.
type pair [2]int

// triangle has three nodes, each two of which are neighbours, in increasing order.
type triangle [3]int

// neighbours has all pairs of neighbours among so many nodes, in the order of the lesser node, and then of the greater one.
type neighbours struct {
	nodes  int
	pairs  []pair
	before map[pair]bool
}

// neighboursOf returns the neighbours in a graph. graph.Both does not serve here, since its arcs can be more than a graph may have.
func neighboursOf(g api.Graph) (neighbours, api.Errno) {
	arcs, err := graph.Arcs(g)
	if err != api.OK {
		return neighbours{}, err
	}
	n := neighbours{nodes: len(g.Next), before: map[pair]bool{}}
	for _, arc := range arcs {
		p := pairOf(arc.From, arc.To)
		if arc.From != arc.To && !n.before[p] {
			n.before[p] = true
			n.pairs = append(n.pairs, p)
		}
	}
	slices.SortFunc(n.pairs, func(a, b pair) int { return slices.Compare(a[:], b[:]) })
	return n, api.OK
}

func pairOf(a, b int) pair { return pair{min(a, b), max(a, b)} }

// has reports whether two nodes are neighbours.
func (n neighbours) has(a, b int) bool { return n.before[pairOf(a, b)] }

// all returns all nodes.
func (n neighbours) all() []int {
	nodes := make([]int, n.nodes)
	for node := range nodes {
		nodes[node] = node
	}
	return nodes
}

// degrees returns for each node the number of its neighbours.
func (n neighbours) degrees() []int {
	degrees := make([]int, n.nodes)
	for _, p := range n.pairs {
		degrees[p[0]]++
		degrees[p[1]]++
	}
	return degrees
}

// triangles visits each triangle once.
func (n neighbours) triangles() iter.Seq[triangle] {
	return func(yield func(triangle) bool) {
		for _, p := range n.pairs {
			for third := p[1] + 1; third < n.nodes; third++ {
				if n.has(p[0], third) && n.has(p[1], third) && !yield(triangle{p[0], p[1], third}) {
					return
				}
			}
		}
	}
}
