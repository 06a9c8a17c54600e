package walk_test

import (
	"math"
	"slices"
	"testing"

	"lampwright/api"
	"lampwright/internal/sample"
	"lampwright/walk"
)

const nodes = api.MaxNodes

// allWays returns the least shortest path from s to each node to which there is one: of all that are least to the nodes before, with one more node, the least one.
func allWays(g api.Graph, s int) map[int][]int {
	ways := map[int][]int{s: {s}}
	for range g.Next {
		longer := map[int][]int{}
		for node, way := range ways {
			for _, to := range g.Next[node] {
				next := append(slices.Clone(way), to)
				if _, ok := ways[to]; !ok && (longer[to] == nil || slices.Compare(next, longer[to]) < 0) {
					longer[to] = next
				}
			}
		}
		// The path to a node that was reached before in fewer steps stays; those that were not reached are reached now.
		for to, way := range longer {
			ways[to] = way
		}
	}
	return ways
}

// firstWay returns the first one, in lexicographic order, of all lists of many nodes after s that are paths to t.
func firstWay(g api.Graph, s, t, many int) []int {
	if many == 0 {
		if s == t {
			return []int{s}
		}
		return nil
	}
	for to := range g.Next {
		if slices.Contains(g.Next[s], to) {
			if rest := firstWay(g, to, t, many-1); rest != nil {
				return append([]int{s}, rest...)
			}
		}
	}
	return nil
}

func wantFar(t *testing.T, g api.Graph, s int, far []int, err api.Errno) {
	t.Helper()
	if got, gotErr := walk.Far(g, s); !slices.Equal(got, far) || gotErr != err {
		t.Errorf("Far from %d in %v: %v %d, must be %v %d", s, g, got, gotErr, far, err)
	}
}

func wantWay(t *testing.T, g api.Graph, s, to int, way []int, err api.Errno) {
	t.Helper()
	if got, gotErr := walk.Way(g, s, to); !slices.Equal(got, way) || gotErr != err {
		t.Errorf("Way from %d to %d in %v: %v %d, must be %v %d", s, to, g, got, gotErr, way, err)
	}
}

func wantParts(t *testing.T, g api.Graph, parts []int, err api.Errno) {
	t.Helper()
	if got, gotErr := walk.Parts(g); !slices.Equal(got, parts) || gotErr != err {
		t.Errorf("Parts of %v: %v %d, must be %v %d", g, got, gotErr, parts, err)
	}
}

func wantMost(t *testing.T, g api.Graph, most int, err api.Errno) {
	t.Helper()
	if got, gotErr := walk.Most(g); got != most || gotErr != err {
		t.Errorf("Most of %v: %d %d, must be %d %d", g, got, gotErr, most, err)
	}
}

func TestT1ByHand(t *testing.T) {
	g := sample.Graph([]int{2, 3}, []int{1}, []int{4}, []int{4}, []int{0, 5}, nil)
	wantFar(t, g, 0, []int{0, -1, 1, 1, 2, 3}, api.OK)
	wantFar(t, g, 1, []int{-1, 0, -1, -1, -1, -1}, api.OK)
	wantFar(t, g, 3, []int{2, -1, 3, 0, 1, 2}, api.OK)
	wantFar(t, g, 5, []int{-1, -1, -1, -1, -1, 0}, api.OK)
	wantWay(t, g, 0, 5, []int{0, 2, 4, 5}, api.OK)
	wantWay(t, g, 4, 3, []int{4, 0, 3}, api.OK)
	wantWay(t, g, 2, 3, []int{2, 4, 0, 3}, api.OK)
	wantWay(t, g, 2, 2, []int{2}, api.OK)
	wantWay(t, g, 1, 1, []int{1}, api.OK)
	wantWay(t, g, 5, 5, []int{5}, api.OK)
	wantWay(t, g, 5, 0, nil, api.ErrNone)
	wantWay(t, g, 0, 1, nil, api.ErrNone)
	// A path that is less, but longer, is not a shortest one.
	long := sample.Graph([]int{1, 3}, []int{2}, []int{4}, []int{4}, nil)
	wantWay(t, long, 0, 4, []int{0, 3, 4}, api.OK)
	// The least next node leads on by a greater one.
	twice := sample.Graph([]int{1, 2}, []int{4}, []int{3}, []int{5}, []int{5}, nil)
	wantWay(t, twice, 0, 5, []int{0, 1, 4, 5}, api.OK)
}

func TestT2ByHand(t *testing.T) {
	g := sample.Graph([]int{2, 3}, []int{1}, []int{4}, []int{4}, []int{0, 5}, nil)
	wantParts(t, g, []int{0, 1, 0, 0, 0, 0}, api.OK)
	wantMost(t, g, 3, api.OK)
	// The parts are connected only against the arcs.
	apart := sample.Graph(nil, nil, nil, []int{1}, []int{0}, []int{2, 4}, []int{3})
	wantParts(t, apart, []int{0, 1, 0, 1, 0, 0, 1}, api.OK)
	wantMost(t, apart, 2, api.OK)
	wantParts(t, api.Graph{}, nil, api.OK)
	wantMost(t, api.Graph{}, 0, api.OK)
	wantParts(t, sample.Graph([]int{0}), []int{0}, api.OK)
	wantMost(t, sample.Graph([]int{0}), 0, api.OK)
	wantParts(t, sample.Graph(nil, nil, []int{2}), []int{0, 1, 2}, api.OK)
	wantMost(t, sample.Graph(nil, nil, []int{2}), 0, api.OK)
	wantParts(t, sample.Line(nodes), make([]int, nodes), api.OK)
	wantMost(t, sample.Line(nodes), nodes-1, api.OK)
	wantParts(t, sample.Fan(nodes), make([]int, nodes), api.OK)
	wantMost(t, sample.Fan(nodes), 1, api.OK)
	wantMost(t, sample.Circle(nodes, 1), nodes-1, api.OK)
	wantMost(t, sample.Full(24, 24), 1, api.OK)
}

func TestT1Far(t *testing.T) {
	for _, g := range append(sample.SmallGraphs(), sample.GreatGraphs()...) {
		for s, far := range sample.AllFar(g) {
			wantFar(t, g, s, far, api.OK)
		}
	}
}

// wantWays fails unless these are the ways from s.
func wantWays(t *testing.T, g api.Graph, s int, wayTo func(to int) []int) {
	t.Helper()
	for to := range g.Next {
		way, err := wayTo(to), api.OK
		if way == nil {
			err = api.ErrNone
		}
		wantWay(t, g, s, to, way, err)
	}
}

func TestT1WayOfSmallGraphs(t *testing.T) {
	for _, g := range append(sample.SmallGraphs(), sample.MixedGraphs()[:4]...) {
		for s, far := range sample.AllFar(g) {
			wantWays(t, g, s, func(to int) []int {
				if far[to] < 0 {
					return nil
				}
				return firstWay(g, s, to, far[to])
			})
		}
	}
}

func TestT1WayOfGreatGraphs(t *testing.T) {
	for _, g := range sample.GreatGraphs() {
		for s := range g.Next {
			ways := allWays(g, s)
			wantWays(t, g, s, func(to int) []int { return ways[to] })
		}
	}
}

// The oracles agree with each other.
func TestT1WaysAreShortest(t *testing.T) {
	for _, g := range append(sample.SmallGraphs(), sample.GreatGraphs()...) {
		for s, far := range sample.AllFar(g) {
			ways := allWays(g, s)
			for to := range g.Next {
				if len(ways[to]) != far[to]+1 {
					t.Errorf("the way from %d to %d in %v has %d nodes", s, to, g, len(ways[to]))
				}
			}
		}
	}
}

// partsOf takes the least of the numbers of two nodes between which there is an arc for both, as long as anything changes.
func partsOf(g api.Graph) []int {
	parts := sample.Steps(0, 1, len(g.Next))
	for range g.Next {
		for node, l := range g.Next {
			for _, to := range l {
				least := min(parts[node], parts[to])
				parts[node], parts[to] = least, least
			}
		}
	}
	return parts
}

func TestT2PartsAndMost(t *testing.T) {
	for _, g := range append(sample.SmallGraphs(), sample.GreatGraphs()...) {
		wantParts(t, g, partsOf(g), api.OK)
		wantMost(t, g, slices.Max(append(slices.Concat(sample.AllFar(g)...), 0)), api.OK)
	}
}

// With their reverse ones, the arcs are more than a graph may have.
func TestT2PartsOfManyArcs(t *testing.T) {
	for _, g := range []api.Graph{sample.Full(nodes, 6), sample.Circle(nodes, 1, 20, 40, 45, 77, 98)} {
		if len(slices.Concat(g.Next...)) != api.MaxArcs {
			t.Fatal("there are fewer arcs than there may be")
		}
		wantParts(t, g, make([]int, nodes), api.OK)
	}
}

// outside are numbers that are not nodes of a graph with n nodes.
func outside(n int) []int {
	return []int{math.MinInt, -n - 1, -2, -1, n, n + 1, nodes, api.MaxNode, math.MaxInt}
}

func TestT1Errors(t *testing.T) {
	for _, g := range append(sample.GreatGraphs(), sample.SmallGraphs()[:19]...) {
		n := len(g.Next)
		for _, bad := range outside(n) {
			wantFar(t, g, bad, nil, api.ErrRange)
			for _, other := range append(outside(n), 0, n-1) {
				wantWay(t, g, bad, other, nil, api.ErrRange)
				wantWay(t, g, other, bad, nil, api.ErrRange)
			}
		}
	}
	// The error of the graph comes before those of nodes, and that there is no path comes last.
	for _, w := range sample.WrongGraphs() {
		for _, s := range append(outside(len(w.Graph.Next)), 0, 1) {
			wantFar(t, w.Graph, s, nil, w.Err)
			for _, to := range []int{math.MinInt, -1, 0, 1, nodes, math.MaxInt} {
				wantWay(t, w.Graph, s, to, nil, w.Err)
				wantWay(t, w.Graph, to, s, nil, w.Err)
			}
		}
	}
}

func TestT2Errors(t *testing.T) {
	for _, w := range sample.WrongGraphs() {
		wantParts(t, w.Graph, nil, w.Err)
		wantMost(t, w.Graph, 0, w.Err)
	}
}
