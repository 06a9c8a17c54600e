package walk_test

import (
	"math"
	"slices"
	"testing"

	"lampwright/api"
	"lampwright/graph"
	"lampwright/internal/sample"
	"lampwright/walk"
)

func oddNodes() []int { return []int{math.MinInt, -1, 0, 1, nodes - 1, nodes, math.MaxInt} }

func TestP1ReturnsForAllArguments(t *testing.T) {
	for _, g := range sample.OddGraphs() {
		wrong := graph.Check(g)
		for _, s := range oddNodes() {
			if far, err := walk.Far(g, s); err == api.OK && wrong != api.OK || err != api.OK && len(far) != 0 {
				t.Errorf("Far: %v beside the error %d", far, err)
			}
			for _, to := range oddNodes() {
				if way, err := walk.Way(g, s, to); err == api.OK && wrong != api.OK || err != api.OK && len(way) != 0 {
					t.Errorf("Way: %v beside the error %d", way, err)
				}
			}
		}
		if parts, err := walk.Parts(g); err != wrong || err != api.OK && len(parts) != 0 {
			t.Errorf("Parts: %v beside the error %d", parts, err)
		}
		if most, err := walk.Most(g); err != wrong || err != api.OK && most != 0 {
			t.Errorf("Most: %d beside the error %d", most, err)
		}
	}
}

// results calls each function, and returns its results that have memory.
func results(g api.Graph, s, to int) [][]int {
	far, _ := walk.Far(g, s)
	way, _ := walk.Way(g, s, to)
	parts, _ := walk.Parts(g)
	walk.Most(g)
	return [][]int{far, way, parts}
}

// A result that shared memory with an argument would carry the changes into it.
func TestP2ArgumentsStayAsTheyAre(t *testing.T) {
	for _, filling := range []int{0, 1, -1} {
		for _, g := range slices.Concat(sample.OddGraphs(), sample.Graphs(3)) {
			m := sample.AroundGraph(g, filling)
			for s := -1; s < 3; s++ {
				for _, result := range results(m.Graph, s, 1) {
					sample.Flip(result)
				}
			}
			if m.Changed() {
				t.Errorf("the graph %v is changed", g)
			}
		}
	}
}

func TestP2ResultsShareNoMemory(t *testing.T) {
	for _, g := range sample.GreatGraphs() {
		first, again := results(g, 0, 1), results(g, 0, 1)
		if sample.ShareMemory(slices.Concat(first, again, g.Next)...) {
			t.Errorf("the results for %v share memory", g)
		}
	}
}

func TestP2EmptyListsCanBeNilOrNot(t *testing.T) {
	for _, g := range []api.Graph{{}, {Next: [][]int{}}} {
		wantFar(t, g, 0, nil, api.ErrRange)
		wantWay(t, g, 0, 0, nil, api.ErrRange)
		wantParts(t, g, nil, api.OK)
		wantMost(t, g, 0, api.OK)
	}
	for _, l := range [][]int{nil, {}} {
		g := sample.Graph([]int{1}, l, l)
		wantFar(t, g, 0, []int{0, 1, -1}, api.OK)
		wantWay(t, g, 0, 1, []int{0, 1}, api.OK)
		wantWay(t, g, 1, 2, nil, api.ErrNone)
		wantParts(t, g, []int{0, 0, 2}, api.OK)
		wantMost(t, g, 1, api.OK)
	}
}

func TestP3EachCallIsByItself(t *testing.T) {
	g := sample.Graph([]int{1, 2}, []int{3}, []int{3}, []int{0}, nil)
	for range 3 {
		wantFar(t, g, 0, []int{0, 1, 1, 2, -1}, api.OK)
		wantWay(t, g, 0, 3, []int{0, 1, 3}, api.OK)
		wantWay(t, g, 3, 2, []int{3, 0, 2}, api.OK)
		wantWay(t, g, 0, 4, nil, api.ErrNone)
		wantParts(t, g, []int{0, 0, 0, 0, 4}, api.OK)
		wantMost(t, g, 3, api.OK)
		for _, result := range results(g, 0, 3) {
			sample.Flip(result)
		}
		results(sample.Graph([]int{1}), 0, 1)
	}
}

func TestP4HoldsForMuch(t *testing.T) {
	const much = 1 << 22
	for _, c := range []struct {
		g   api.Graph
		err api.Errno
	}{
		{api.Graph{Next: make([][]int, much)}, api.ErrMany},
		{sample.Graph(sample.Steps(0, 1, much)), api.ErrRange},
		{sample.Graph(nil, make([]int, much)), api.ErrState},
	} {
		far, err := walk.Far(c.g, 0)
		way, wayErr := walk.Way(c.g, 0, 0)
		parts, partsErr := walk.Parts(c.g)
		most, mostErr := walk.Most(c.g)
		if len(far)+len(way)+len(parts)+most != 0 || slices.ContainsFunc([]api.Errno{err, wayErr, partsErr, mostErr}, func(err api.Errno) bool { return err != c.err }) {
			t.Errorf("the errors are %d %d %d %d, must be %d", err, wayErr, partsErr, mostErr, c.err)
		}
	}
}
