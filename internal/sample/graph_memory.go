package sample

import (
	"slices"

	"lampwright/api"
)

// GraphMemory has a graph in the middle of memory of which a function may change nothing: there are other lists before and behind those of the nodes, and each list is in the middle of memory of its own.
type GraphMemory struct {
	Graph       api.Graph
	lists       []Memory[int]
	whole, kept [][]int
}

// AroundGraph returns a graph with such memory, in which all is filled with one element.
func AroundGraph(g api.Graph, filling int) GraphMemory {
	margin := slices.Repeat([][]int{{filling}}, edge)
	m := GraphMemory{}
	for _, l := range slices.Concat(margin, g.Next, margin) {
		around := Around(l, filling)
		m.lists = append(m.lists, around)
		m.whole = append(m.whole, around.List)
	}
	m.kept = slices.Clone(m.whole)
	m.Graph = api.Graph{Next: m.whole[edge : edge+len(g.Next)]}
	return m
}

// Changed reports whether a list, where it is, or the memory around it is not as it was.
func (m GraphMemory) Changed() bool {
	return slices.ContainsFunc(m.lists, Memory[int].Changed) || !slices.EqualFunc(m.whole, m.kept, sameMemory)
}

// sameMemory reports whether two lists, of which the second one has room behind its length, are one.
func sameMemory[E any](a, b []E) bool {
	return len(a) == len(b) && cap(a) == cap(b) && &a[:1][0] == &b[:1][0]
}

// GraphsMemory has a list of graphs in the middle of memory of which a function may change nothing: there are other graphs before and behind it, and each graph is in the middle of memory of its own.
type GraphsMemory struct {
	Graphs      []api.Graph
	graphs      []GraphMemory
	whole, kept []api.Graph
}

// AroundGraphs returns a list of graphs with such memory, in which all is filled with one element.
func AroundGraphs(l []api.Graph, filling int) GraphsMemory {
	margin := slices.Repeat([]api.Graph{Graph([]int{filling})}, edge)
	m := GraphsMemory{}
	for _, g := range slices.Concat(margin, l, margin) {
		around := AroundGraph(g, filling)
		m.graphs = append(m.graphs, around)
		m.whole = append(m.whole, around.Graph)
	}
	m.kept = slices.Clone(m.whole)
	m.Graphs = m.whole[edge : edge+len(l)]
	return m
}

// Changed reports whether a graph, where it is, or the memory around it is not as it was.
func (m GraphsMemory) Changed() bool {
	same := func(a, b api.Graph) bool { return sameMemory(a.Next, b.Next) }
	return slices.ContainsFunc(m.graphs, GraphMemory.Changed) || !slices.EqualFunc(m.whole, m.kept, same)
}

// FlipGraph changes each list of a result, and where it is, and the memory behind the length of all of them.
func FlipGraph(result api.Graph) {
	all := result.Next[:cap(result.Next)]
	for i, l := range all {
		Flip(l)
		all[i] = []int{-1}
	}
}

// ShareMemory reports whether a change of one list, or of the memory behind its length, changes another one.
func ShareMemory[E ~byte | ~int | ~uint64](lists ...[]E) bool {
	for i, l := range lists {
		kept := make([][]E, len(lists))
		for j, other := range lists {
			kept[j] = slices.Clone(other)
		}
		Flip(l)
		kept[i] = slices.Clone(l)
		same := slices.EqualFunc(lists, kept, slices.Equal[[]E])
		Flip(l)
		if !same {
			return true
		}
	}
	return false
}
