package strong_test

import (
	"slices"
	"testing"

	"lampwright/api"
	"lampwright/graph"
	"lampwright/internal/sample"
	"lampwright/strong"
)

func TestP1ReturnsForAllArguments(t *testing.T) {
	for _, g := range append(sample.OddGraphs(), sample.Graphs(3)...) {
		wrong := graph.Check(g)
		if parts, err := strong.Parts(g); err != wrong || err != api.OK && len(parts) != 0 {
			t.Errorf("Parts: %v beside the error %d", parts, err)
		}
		if order, err := strong.Order(g); err == api.OK && wrong != api.OK || err != api.OK && len(order) != 0 {
			t.Errorf("Order: %v beside the error %d", order, err)
		}
		if shrunk, numbers, err := strong.Shrink(g); err != wrong || err != api.OK && len(shrunk.Next)+len(numbers) != 0 {
			t.Errorf("Shrink: %v %v beside the error %d", shrunk, numbers, err)
		}
	}
}

// results calls each function, and returns its results that are lists, and the one that is a graph.
func results(g api.Graph) ([][]int, api.Graph) {
	parts, _ := strong.Parts(g)
	order, _ := strong.Order(g)
	shrunk, numbers, _ := strong.Shrink(g)
	return [][]int{parts, order, numbers}, shrunk
}

// flip changes all results. One that shared memory with an argument would carry the changes into it.
func flip(lists [][]int, shrunk api.Graph) {
	for _, l := range lists {
		sample.Flip(l)
	}
	sample.FlipGraph(shrunk)
}

func TestP2ArgumentsStayAsTheyAre(t *testing.T) {
	for _, filling := range []int{0, 1, -1} {
		for _, g := range slices.Concat(sample.OddGraphs(), sample.Graphs(3), sample.OnwardGraphs()[:30]) {
			m := sample.AroundGraph(g, filling)
			flip(results(m.Graph))
			if m.Changed() {
				t.Errorf("the graph %v is changed", g)
			}
		}
	}
}

func TestP2ResultsShareNoMemory(t *testing.T) {
	for _, g := range slices.Concat(sample.Graphs(2), sample.GreatGraphs(), sample.OnwardGraphs()[:60]) {
		first, shrunk := results(g)
		again, other := results(g)
		if sample.ShareMemory(slices.Concat(first, shrunk.Next, again, other.Next, g.Next)...) {
			t.Errorf("the results for %v share memory", g)
		}
	}
}

func TestP2EmptyListsCanBeNilOrNot(t *testing.T) {
	for _, g := range []api.Graph{{}, {Next: [][]int{}}} {
		wantParts(t, g, nil, api.OK)
		wantOrder(t, g, nil, api.OK)
		wantShrink(t, g, api.Graph{}, nil, api.OK)
	}
	for _, l := range [][]int{nil, {}} {
		g := sample.Graph([]int{1}, l, l)
		wantParts(t, g, []int{0, 1, 2}, api.OK)
		wantOrder(t, g, []int{0, 1, 2}, api.OK)
		wantShrink(t, g, g, []int{0, 1, 2}, api.OK)
	}
}

func TestP3EachCallIsByItself(t *testing.T) {
	on := sample.Graph(nil, []int{3}, []int{0, 3}, []int{0})
	for range 3 {
		wantParts(t, twoRounds(), []int{0, 1, 2, 0, 1, 0, 6}, api.OK)
		wantOrder(t, on, []int{1, 2, 3, 0}, api.OK)
		wantShrink(t, on, on, []int{0, 1, 2, 3}, api.OK)
		wantShrink(t, twoRounds(), sample.Graph([]int{1, 2}, []int{2}, nil, []int{0, 1}), []int{0, 1, 2, 0, 1, 0, 3}, api.OK)
		flip(results(twoRounds()))
		flip(results(on))
		flip(results(sample.Graph([]int{1})))
	}
}

func TestP4HoldsForMuch(t *testing.T) {
	const much = 1 << 22
	for _, c := range []struct {
		g   api.Graph
		err api.Errno
	}{
		{api.Graph{Next: make([][]int, much)}, api.ErrMany},
		{sample.Graph(sample.Steps(0, 1, much)), api.ErrRange},
		{sample.Graph(nil, make([]int, much)), api.ErrState},
	} {
		lists, shrunk := results(c.g)
		_, err := strong.Parts(c.g)
		_, orderErr := strong.Order(c.g)
		_, _, shrinkErr := strong.Shrink(c.g)
		if len(slices.Concat(lists...))+len(shrunk.Next) != 0 || err != c.err || orderErr != c.err || shrinkErr != c.err {
			t.Errorf("the errors are %d %d %d, must be %d", err, orderErr, shrinkErr, c.err)
		}
	}
}
