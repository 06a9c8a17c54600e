package graph_test

import (
	"math"
	"slices"
	"testing"

	"lampwright/api"
	"lampwright/graph"
	"lampwright/internal/sample"
)

// oddArcs are right and wrong lists of arcs.
func oddArcs() [][]api.Arc {
	all := [][]api.Arc{nil, {}, {{}}, {{}, {}}, {{From: 1}, {To: 1}}, {{From: -1}}, {{To: math.MaxInt}}, {{From: math.MinInt, To: nodes}}, make([]api.Arc, most+1)}
	for _, g := range sample.EdgeGraphs() {
		all = append(all, arcsOf(g))
	}
	return all
}

func TestP1ReturnsForAllArguments(t *testing.T) {
	for _, g := range sample.OddGraphs() {
		wrong := graph.Check(g)
		if l, err := graph.Arcs(g); err != wrong || err != api.OK && len(l) != 0 {
			t.Errorf("Arcs: %v beside the error %d", l, err)
		}
		if turned, err := graph.Turn(g); err != wrong || err != api.OK && turned.Next != nil {
			t.Errorf("Turn: %v beside the error %d", turned, err)
		}
		if both, err := graph.Both(g); err == api.OK && wrong != api.OK || err != api.OK && both.Next != nil {
			t.Errorf("Both: %v beside the error %d", both, err)
		}
		if from, to, err := graph.Degrees(g); err != wrong || err != api.OK && len(from)+len(to) != 0 {
			t.Errorf("Degrees: %v %v beside the error %d", from, to, err)
		}
	}
	for _, n := range []int{math.MinInt, -1, 0, 1, 2, nodes, nodes + 1, math.MaxInt} {
		for _, l := range oddArcs() {
			if g, err := graph.Of(n, l); err == api.OK && len(g.Next) != n || err != api.OK && g.Next != nil {
				t.Errorf("Of: %v beside the error %d", g, err)
			}
		}
	}
}

// flipArcs changes each arc of a result, and the memory behind its length.
func flipArcs(result []api.Arc) {
	all := result[:cap(result)]
	for i := range all {
		all[i] = api.Arc{From: -1, To: -1}
	}
}

// use calls each function, and flips what it returns. A result that shared memory with an argument would carry the changes into it.
func use(g api.Graph, n int, arcs []api.Arc) {
	graph.Check(g)
	l, _ := graph.Arcs(g)
	flipArcs(l)
	for _, result := range graphsOf(g, n, arcs) {
		sample.FlipGraph(result)
	}
	from, to, _ := graph.Degrees(g)
	sample.Flip(from)
	sample.Flip(to)
}

// graphsOf returns all results that are graphs.
func graphsOf(g api.Graph, n int, arcs []api.Arc) []api.Graph {
	of, _ := graph.Of(n, arcs)
	turned, _ := graph.Turn(g)
	both, _ := graph.Both(g)
	return []api.Graph{of, turned, both}
}

func TestP2ArgumentsStayAsTheyAre(t *testing.T) {
	for _, filling := range []int{0, 1, -1} {
		for _, g := range slices.Concat(sample.OddGraphs(), sample.Graphs(2)) {
			m := sample.AroundGraph(g, filling)
			use(m.Graph, 0, nil)
			if m.Changed() {
				t.Errorf("the graph %v is changed", g)
			}
		}
		for _, l := range oddArcs() {
			m := sample.Around(l, api.Arc{From: filling})
			use(api.Graph{}, 2, m.List)
			use(api.Graph{}, nodes, m.List)
			if m.Changed() {
				t.Errorf("the arcs %v are changed", l)
			}
		}
	}
}

func TestP2ResultsShareNoMemory(t *testing.T) {
	for _, g := range rightGraphs() {
		for i, result := range graphsOf(g, len(g.Next), arcsOf(g)) {
			if sample.ShareMemory(append(result.Next, g.Next...)...) {
				t.Errorf("result %d for %v has lists that share memory", i, g)
			}
		}
		from, to, _ := graph.Degrees(g)
		if sample.ShareMemory(from, to) {
			t.Errorf("the degrees of %v share memory", g)
		}
	}
}

func TestP2EmptyListsCanBeNilOrNot(t *testing.T) {
	for _, g := range []api.Graph{{}, {Next: [][]int{}}} {
		wantCheck(t, g, api.OK)
		wantArcs(t, g, nil, api.OK)
		wantTurn(t, g, api.Graph{}, api.OK)
		wantBoth(t, g, api.Graph{}, api.OK)
		wantDegrees(t, g, nil, nil, api.OK)
	}
	for _, l := range [][]int{nil, {}} {
		g := sample.Graph([]int{1}, l)
		wantCheck(t, g, api.OK)
		wantArcs(t, g, []api.Arc{{To: 1}}, api.OK)
		wantTurn(t, g, sample.Graph(nil, []int{0}), api.OK)
		wantBoth(t, g, sample.Graph([]int{1}, []int{0}), api.OK)
		wantDegrees(t, g, []int{1, 0}, []int{0, 1}, api.OK)
	}
	for _, l := range [][]api.Arc{nil, {}} {
		wantOf(t, 0, l, api.Graph{}, api.OK)
		wantOf(t, 2, l, sample.Graph(nil, nil), api.OK)
	}
}

func TestP3EachCallIsByItself(t *testing.T) {
	g := sample.Circle(40, 0, 3, 5, 30)
	both := sample.Circle(40, 0, 3, 5, 10, 30, 35, 37)
	turned := sample.Circle(40, 0, 10, 35, 37)
	for range 30 {
		wantCheck(t, g, api.OK)
		wantArcs(t, g, arcsOf(g), api.OK)
		wantOf(t, 40, arcsOf(g), g, api.OK)
		wantTurn(t, g, turned, api.OK)
		wantBoth(t, g, both, api.OK)
		wantDegrees(t, g, slices.Repeat([]int{4}, 40), slices.Repeat([]int{4}, 40), api.OK)
		use(g, 40, arcsOf(g))
		use(sample.Graph([]int{1}), -1, make([]api.Arc, 2))
	}
}

func TestP4HoldsForMuch(t *testing.T) {
	const much = 1 << 22
	for _, c := range []struct {
		g   api.Graph
		err api.Errno
	}{
		{api.Graph{Next: make([][]int, much)}, api.ErrMany},
		{sample.Graph(sample.Steps(0, 1, much)), api.ErrRange},
		{sample.Graph(nil, make([]int, much)), api.ErrState},
	} {
		if err := graph.Check(c.g); err != c.err {
			t.Errorf("Check: %d, must be %d", err, c.err)
		}
		if l, err := graph.Arcs(c.g); len(l) != 0 || err != c.err {
			t.Errorf("Arcs: %d, must be %d", err, c.err)
		}
		for _, f := range []func(api.Graph) (api.Graph, api.Errno){graph.Turn, graph.Both} {
			if result, err := f(c.g); len(result.Next) != 0 || err != c.err {
				t.Errorf("Turn or Both: %d, must be %d", err, c.err)
			}
		}
		if from, to, err := graph.Degrees(c.g); len(from)+len(to) != 0 || err != c.err {
			t.Errorf("Degrees: %d, must be %d", err, c.err)
		}
	}
	wantOf(t, nodes, make([]api.Arc, much), api.Graph{}, api.ErrMany)
	wantOf(t, nodes+1, make([]api.Arc, much), api.Graph{}, api.ErrRange)
}
