package core_test

import (
	"slices"
	"testing"

	"lampwright/api"
	"lampwright/core"
	"lampwright/graph"
	"lampwright/internal/sample"
)

func TestP1ReturnsForAllArguments(t *testing.T) {
	for _, g := range append(sample.OddGraphs(), sample.Graphs(3)...) {
		wrong := graph.Check(g)
		if numbers, err := core.Numbers(g); err != wrong || err != api.OK && len(numbers) != 0 {
			t.Errorf("Numbers: %v beside the error %d", numbers, err)
		}
		if threes, many, err := core.Threes(g); err != wrong || err != api.OK && len(threes)+many != 0 {
			t.Errorf("Threes: %v %d beside the error %d", threes, many, err)
		}
		if pairs, err := core.Pairs(g); err != wrong || err != api.OK && len(pairs) != 0 {
			t.Errorf("Pairs: %v beside the error %d", pairs, err)
		}
	}
}

// results calls each function, and returns its results that have memory.
func results(g api.Graph) [][]int {
	numbers, _ := core.Numbers(g)
	threes, _, _ := core.Threes(g)
	pairs, _ := core.Pairs(g)
	return [][]int{numbers, threes, pairs}
}

// flip changes all results. One that shared memory with an argument would carry the changes into it.
func flip(lists [][]int) {
	for _, l := range lists {
		sample.Flip(l)
	}
}

func TestP2ArgumentsStayAsTheyAre(t *testing.T) {
	for _, filling := range []int{0, 1, -1} {
		for _, g := range slices.Concat(sample.OddGraphs(), sample.Graphs(3), sample.OnwardGraphs()[:30]) {
			m := sample.AroundGraph(g, filling)
			flip(results(m.Graph))
			if m.Changed() {
				t.Errorf("the graph %v is changed", g)
			}
		}
	}
}

func TestP2ResultsShareNoMemory(t *testing.T) {
	for _, g := range slices.Concat(sample.Graphs(2), sample.GreatGraphs(), sample.OnwardGraphs()[:60]) {
		if sample.ShareMemory(slices.Concat(results(g), results(g), g.Next)...) {
			t.Errorf("the results for %v share memory", g)
		}
	}
}

func TestP2EmptyListsCanBeNilOrNot(t *testing.T) {
	for _, g := range []api.Graph{{}, {Next: [][]int{}}} {
		wantNumbers(t, g, nil, api.OK)
		wantThrees(t, g, nil, 0, api.OK)
		wantPairs(t, g, nil, api.OK)
	}
	for _, l := range [][]int{nil, {}} {
		g := sample.Graph([]int{1}, l, l)
		wantNumbers(t, g, []int{1, 1, 0}, api.OK)
		wantThrees(t, g, []int{0, 0, 0}, 0, api.OK)
		wantPairs(t, g, []int{1, 0, -1}, api.OK)
	}
}

func TestP3EachCallIsByItself(t *testing.T) {
	for range 3 {
		wantNumbers(t, kite(), []int{3, 3, 3, 1, 1, 3, 0}, api.OK)
		wantThrees(t, kite(), []int{3, 3, 3, 0, 0, 3, 0}, 4, api.OK)
		wantPairs(t, kite(), []int{1, 0, 5, 4, 3, 2, -1}, api.OK)
		flip(results(kite()))
		flip(results(sample.Full(3, 3)))
		flip(results(sample.Graph([]int{1})))
	}
}

func TestP4HoldsForMuch(t *testing.T) {
	const much = 1 << 22
	for _, c := range []struct {
		g   api.Graph
		err api.Errno
	}{
		{api.Graph{Next: make([][]int, much)}, api.ErrMany},
		{sample.Graph(sample.Steps(0, 1, much)), api.ErrRange},
		{sample.Graph(nil, make([]int, much)), api.ErrState},
	} {
		numbers, err := core.Numbers(c.g)
		threes, many, threesErr := core.Threes(c.g)
		pairs, pairsErr := core.Pairs(c.g)
		if len(numbers)+len(threes)+many+len(pairs) != 0 || err != c.err || threesErr != c.err || pairsErr != c.err {
			t.Errorf("the errors are %d %d %d, must be %d", err, threesErr, pairsErr, c.err)
		}
	}
}
