package reach_test

import (
	"slices"
	"testing"

	"lampwright/api"
	"lampwright/internal/reach"
	"lampwright/internal/sample"
)

func wantFrom(t *testing.T, next [][]int, s int, far []int) {
	t.Helper()
	if got := reach.From(next, s); !slices.Equal(got, far) {
		t.Errorf("From %d in %v: %v, must be %v", s, next, got, far)
	}
}

// reversed returns each list in the reverse order, and twice.
func reversed(g api.Graph) [][]int {
	next := make([][]int, len(g.Next))
	for node, l := range g.Next {
		next[node] = slices.Concat(l, l)
		slices.Reverse(next[node])
	}
	return next
}

func TestFrom(t *testing.T) {
	wantFrom(t, [][]int{{2, 1, 2}, {3}, {1}, nil, {0}}, 0, []int{0, 1, 1, 2, reach.None})
	wantFrom(t, [][]int{{0}}, 0, []int{0})
	for _, g := range slices.Concat(sample.SmallGraphs(), sample.GreatGraphs(), sample.ScatteredGraphs()) {
		for s, far := range sample.AllFar(g) {
			wantFrom(t, g.Next, s, far)
			wantFrom(t, reversed(g), s, far)
		}
	}
}

func TestFromOnlyReadsTheLists(t *testing.T) {
	for _, g := range slices.Concat(sample.Graphs(3), sample.MixedGraphs()) {
		m := sample.AroundGraph(g, 1)
		for s := range g.Next {
			sample.Flip(reach.From(m.Graph.Next, s))
		}
		if m.Changed() {
			t.Errorf("the lists of %v are changed", g)
		}
	}
}
