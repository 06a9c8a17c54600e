package desk_test

import (
	"fmt"
	"slices"
	"testing"

	"lampwright/api"
	"lampwright/internal/sample"
)

// Each number that a line can have is one of nodes up to MaxNodes.
func TestX2X3Nodes(t *testing.T) {
	for _, d := range []api.Desk{deskOf(api.Graph{}, plain), deskOf(sample.Full(24, 24), mixed)} {
		for n := range 10000 {
			line := fmt.Sprintf("nodes %d", n)
			if n <= nodes {
				wantDone(t, d, line, sample.Full(n, 0))
			} else {
				wantError(t, d, line, api.ErrRange)
			}
		}
	}
}

// with returns the graph that has an arc or has it not, whatever it was before; others are as they were.
func with(g api.Graph, from, to int, has bool) api.Graph {
	next := make([][]int, len(g.Next))
	for node, l := range g.Next {
		for other := range next {
			there := slices.Contains(l, other)
			if node == from && other == to {
				there = has
			}
			if there {
				next[node] = append(next[node], other)
			}
		}
	}
	return api.Graph{Next: next}
}

// wantArcAndDrop fails unless the arc is added or dropped, whichever is possible, and the other one is not. The graph has room for one more arc.
func wantArcAndDrop(t *testing.T, d api.Desk, from, to int) {
	t.Helper()
	arc, drop := fmt.Sprintf("arc %d %d", from, to), fmt.Sprintf("drop %d %d", from, to)
	switch n := len(d.Graph.Next); {
	case from >= n || to >= n:
		wantError(t, d, arc, api.ErrRange)
		wantError(t, d, drop, api.ErrRange)
	case slices.Contains(d.Graph.Next[from], to):
		wantError(t, d, arc, api.ErrTwice)
		wantDone(t, d, drop, with(d.Graph, from, to, false))
	default:
		wantDone(t, d, arc, with(d.Graph, from, to, true))
		wantError(t, d, drop, api.ErrNone)
	}
}

func TestX2X3ArcAndDrop(t *testing.T) {
	for n := range 4 {
		for _, g := range sample.Graphs(n) {
			for from := range n + 2 {
				for to := range n + 2 {
					wantArcAndDrop(t, deskOf(g, mixed), from, to)
				}
			}
		}
	}
	for _, g := range slices.Concat(sample.MixedGraphs(), sample.ScatteredGraphs()) {
		n := len(g.Next)
		if len(slices.Concat(g.Next...)) == arcs {
			continue
		}
		for _, from := range []int{0, 1, n / 2, n - 1, n, n + 1, 9999} {
			for to := range n + 1 {
				wantArcAndDrop(t, deskOf(g, plain), from, to)
			}
			wantArcAndDrop(t, deskOf(g, plain), from, 9999)
		}
	}
}

// fullGraphs have as many arcs as there may be.
func fullGraphs() []api.Graph {
	return []api.Graph{sample.Full(nodes, 6), sample.Circle(nodes, 1, 20, 40, 50, 77, 99), sample.Circle(25, sample.Steps(1, 1, 24)...)}
}

func TestX3ArcErrManyAtTheEdge(t *testing.T) {
	for _, g := range fullGraphs() {
		d := deskOf(g, plain)
		n := len(g.Next)
		// None of these graphs has an arc from node 9 to itself, and all of them have arcs from node 0 to nodes 1 and 20.
		for _, line := range []string{"arc 9 9", "arc 0 1", fmt.Sprintf("arc %d 0", n), fmt.Sprintf("arc 0 %d", n), "arc 9999 9999"} {
			// That there are too many arcs comes before the errors of each of them.
			wantError(t, d, line, api.ErrMany)
		}
		less := with(g, 0, 1, false)
		wantDone(t, d, "drop 0 1", less)
		wantDone(t, deskOf(less, plain), "arc 0 1", g)
		wantDone(t, deskOf(less, plain), "arc 9 9", with(less, 9, 9, true))
		wantError(t, deskOf(less, plain), "arc 0 20", api.ErrTwice)
		wantError(t, deskOf(less, plain), fmt.Sprintf("arc %d 0", n), api.ErrRange)
		wantError(t, d, "drop 9 9", api.ErrNone)
		wantError(t, d, fmt.Sprintf("drop %d 9", n), api.ErrRange)
		wantError(t, d, fmt.Sprintf("drop 9 %d", n), api.ErrRange)
	}
}

func TestX2X3How(t *testing.T) {
	d := deskOf(sample.Graph([]int{1}, nil), mixed)
	for _, back := range []int{0, 1, 6, 7, 8, 9, 10, 9999} {
		for _, least := range []int{0, 1, 2, 3, 4, 299, 300, 301, 9999} {
			for k := range 20 {
				line := fmt.Sprintf("how %d %d %d", back, least, k)
				if back <= 7 && (least == 0 || 2 <= least && least <= 300) && 1 <= k && k <= 16 {
					wantDo(t, d, line, deskOf(d.Graph, api.How{Back: back, Least: least, K: k}), "ok", api.OK)
				} else {
					wantError(t, d, line, api.ErrRange)
				}
			}
			wantError(t, d, fmt.Sprintf("how %d %d 9999", back, least), api.ErrRange)
		}
	}
}

// What is packed after a change is what was changed.
func TestX2HowIsUsed(t *testing.T) {
	g := sample.Circle(40, 0, 1, 2, 3, 9)
	for _, h := range sample.Hows() {
		text, _, _ := sample.Pack(g, h)
		wantReply(t, deskOf(g, h), "bits", fmt.Sprint(len(text)))
	}
}
