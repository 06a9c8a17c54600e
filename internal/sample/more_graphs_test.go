package sample

import (
	"slices"
	"testing"

	"lampwright/api"
)

func TestMoreGraphsAreRight(t *testing.T) {
	for _, c := range []struct {
		name string
		all  []api.Graph
		many int
	}{
		{"SmallGraphs", SmallGraphs(), 1 + 2 + 16 + 512 + 1<<16/17 + 1},
		{"GreatGraphs", GreatGraphs(), 25},
		{"ScatteredGraphs", ScatteredGraphs(), 66},
		{"OnwardGraphs", OnwardGraphs(), 3 * (25 + 66)},
	} {
		if len(c.all) != c.many {
			t.Errorf("%s are %d", c.name, len(c.all))
		}
		for _, g := range c.all {
			if !holds(g) {
				t.Errorf("%s: %v is not right", c.name, g)
			}
		}
	}
}

func TestGraphsByRules(t *testing.T) {
	for i, c := range []struct{ got, want api.Graph }{
		{Line(1), Graph(nil)},
		{Line(3), Graph([]int{1}, []int{2}, nil)},
		{Fan(1), Graph([]int{0})},
		{Fan(3), Graph(nil, nil, []int{0, 1, 2})},
		{Grid(1), Graph(nil)},
		{Grid(2), Graph([]int{1, 2}, []int{3}, []int{3}, nil)},
		{pairs(2), Graph(nil, nil, []int{1}, []int{0})},
		{Scattered(1, 5, 0), Graph([]int{0})},
		{Scattered(4, 0, 3), Graph(nil, nil, nil, nil)},
		{Scattered(3, 400, 3), Full(3, 3)},
		{Onward(Full(3, 3), 1), Graph([]int{1, 2}, []int{2}, nil)},
		{Onward(Full(3, 3), api.MaxNodes), Graph(nil, []int{0}, []int{0, 1})},
		{Onward(Full(3, 3), 60), Graph([]int{2}, []int{0, 2}, nil)},
	} {
		if !SameGraph(c.got, c.want) {
			t.Errorf("graph %d: %v, must be %v", i, c.got, c.want)
		}
	}
	if SameGraph(Scattered(10, 20, 1), Scattered(10, 20, 2)) {
		t.Error("another seed has the same arcs")
	}
}

func TestAllFar(t *testing.T) {
	for _, c := range []struct {
		g   api.Graph
		far [][]int
	}{
		{Graph([]int{1, 2}, []int{3}, []int{3}, nil, nil), [][]int{{0, 1, 1, 2, -1}, {-1, 0, -1, 1, -1}, {-1, -1, 0, 1, -1}, {-1, -1, -1, 0, -1}, {-1, -1, -1, -1, 0}}},
		{Graph([]int{0, 1}, []int{2}, []int{0}), [][]int{{0, 1, 2}, {2, 0, 1}, {1, 2, 0}}},
	} {
		if far := AllFar(c.g); !slices.EqualFunc(far, c.far, slices.Equal) {
			t.Errorf("AllFar of %v: %v", c.g, far)
		}
	}
	for n := range 5 {
		for _, row := range AllFar(Full(n, n)) {
			if slices.Max(row) > 1 || slices.Min(row) != 0 {
				t.Errorf("AllFar of all arcs: %v", row)
			}
		}
	}
}

func TestOnwardGraphsDoNotLeadBack(t *testing.T) {
	arcs := 0
	for _, g := range OnwardGraphs() {
		far := AllFar(g)
		for from, l := range g.Next {
			arcs += len(l)
			for _, to := range l {
				if far[to][from] >= 0 {
					t.Errorf("a path leads from %d back in %v", to, g)
				}
			}
		}
	}
	if arcs < 10000 {
		t.Errorf("there are only %d arcs", arcs)
	}
}
