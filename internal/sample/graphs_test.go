package sample

import (
	"slices"
	"testing"

	"lampwright/api"
)

func TestSameGraph(t *testing.T) {
	g := Graph([]int{0, 1}, nil)
	if !SameGraph(g, Graph([]int{0, 1}, []int{})) || !SameGraph(Graph(), api.Graph{Next: [][]int{}}) {
		t.Error("SameGraph tells a graph from itself")
	}
	for _, other := range []api.Graph{{}, Graph([]int{0, 1}), Graph([]int{0}, nil), Graph([]int{0, 1}, []int{0}), Graph([]int{0, 1}, nil, nil)} {
		if SameGraph(g, other) || SameGraph(other, g) {
			t.Errorf("SameGraph does not tell %v from %v", g, other)
		}
	}
}

func TestGraphs(t *testing.T) {
	for n, many := range []int{1, 2, 16, 512} {
		all := Graphs(n)
		if len(all) != many {
			t.Errorf("there are %d graphs with %d nodes", len(all), n)
		}
		for i, g := range all {
			if len(g.Next) != n || slices.IndexFunc(all, func(other api.Graph) bool { return SameGraph(g, other) }) != i {
				t.Errorf("graph %d has other nodes or occurred before: %v", i, g)
			}
		}
	}
}

// holds reports whether nothing is wrong with a graph: it goes through the matrix of arcs.
func holds(g api.Graph) bool {
	many := 0
	for _, l := range g.Next {
		var right []int
		for n := range g.Next {
			if slices.Contains(l, n) {
				right = append(right, n)
			}
		}
		if !slices.Equal(l, right) {
			return false
		}
		many += len(l)
	}
	return len(g.Next) <= api.MaxNodes && many <= api.MaxArcs
}

func TestRightGraphs(t *testing.T) {
	nodes, arcs := 0, 0
	for _, g := range slices.Concat(MixedGraphs(), EdgeGraphs()) {
		if !holds(g) {
			t.Errorf("%v is not right", g)
		}
		nodes = max(nodes, len(g.Next))
		arcs = max(arcs, len(slices.Concat(g.Next...)))
	}
	if nodes != api.MaxNodes || arcs != api.MaxArcs {
		t.Errorf("there are at most %d nodes and %d arcs", nodes, arcs)
	}
}

func TestWrongGraphs(t *testing.T) {
	for _, w := range WrongGraphs() {
		if holds(w.Graph) || w.Err == api.OK {
			t.Errorf("%v is right", w.Graph)
		}
		if len(w.Graph.Next) > api.MaxNodes && w.Err != api.ErrMany {
			t.Errorf("%d nodes have the error %d", len(w.Graph.Next), w.Err)
		}
	}
	if len(OddGraphs()) != len(MixedGraphs())+len(EdgeGraphs())+len(WrongGraphs()) {
		t.Error("OddGraphs are not all of them")
	}
}

func TestCircleAndFull(t *testing.T) {
	if g := Circle(3, 0, 2); !SameGraph(g, Graph([]int{0, 2}, []int{0, 1}, []int{1, 2})) {
		t.Errorf("Circle: %v", g)
	}
	if g := Full(3, 2); !SameGraph(g, Graph([]int{0, 1, 2}, []int{0, 1, 2}, nil)) {
		t.Errorf("Full: %v", g)
	}
}

func TestGraphMemory(t *testing.T) {
	for _, g := range slices.Concat(Graphs(2), MixedGraphs()) {
		m := AroundGraph(g, 5)
		if m.Changed() || !SameGraph(m.Graph, g) {
			t.Fatalf("AroundGraph of %v: %v", g, m.Graph)
		}
		_ = append(m.Graph.Next, nil)
		if !m.Changed() {
			t.Error("a change behind the nodes is not noticed")
		}
	}
	for i, change := range []func(g api.Graph){
		func(g api.Graph) { g.Next[0][1]++ },
		func(g api.Graph) { _ = append(g.Next[2], 6) },
		func(g api.Graph) { g.Next[2] = []int{} },
		func(g api.Graph) { g.Next[2] = nil },
		func(g api.Graph) { g.Next[0] = slices.Clone(g.Next[0]) },
		func(g api.Graph) { g.Next[0] = g.Next[0][:2:2] },
		func(g api.Graph) { g.Next[0], g.Next[1] = g.Next[1], g.Next[0] },
		FlipGraph,
	} {
		m := AroundGraph(Graph([]int{0, 1}, []int{0, 1}, nil), 5)
		change(m.Graph)
		if !m.Changed() {
			t.Errorf("change %d is not noticed", i)
		}
	}
}

func TestGraphsMemory(t *testing.T) {
	graphs := []api.Graph{Graph([]int{0, 1}, nil), {}, Graph([]int{0})}
	for i, change := range []func(l []api.Graph){
		func(l []api.Graph) { l[0].Next[0][1]++ },
		func(l []api.Graph) { _ = append(l[1].Next, nil) },
		func(l []api.Graph) { l[1] = api.Graph{} },
		func(l []api.Graph) { l[0] = Graph([]int{0, 1}, nil) },
		func(l []api.Graph) { l[0].Next = l[0].Next[:1] },
		func(l []api.Graph) { l[0], l[2] = l[2], l[0] },
		func(l []api.Graph) { _ = append(l, api.Graph{}) },
		func(l []api.Graph) { FlipGraph(l[:4][3]) },
	} {
		m := AroundGraphs(graphs, 5)
		if m.Changed() || !slices.EqualFunc(m.Graphs, graphs, SameGraph) {
			t.Fatalf("AroundGraphs: %v", m.Graphs)
		}
		change(m.Graphs)
		if !m.Changed() {
			t.Errorf("change %d is not noticed", i)
		}
	}
}

func TestShareMemory(t *testing.T) {
	whole := []int{1, 2, 3, 4}
	if !ShareMemory(nil, whole[:2:2], whole[1:]) || !ShareMemory(whole[:1], whole[3:]) || !ShareMemory(whole, whole) {
		t.Error("lists that share memory are not noticed")
	}
	if ShareMemory[int]() || ShareMemory(whole) || ShareMemory(whole[:2:2], whole[2:], nil, []int{}) {
		t.Error("lists that do not share memory are said to do so")
	}
	if !slices.Equal(whole, []int{1, 2, 3, 4}) {
		t.Error("lists are changed")
	}
}
