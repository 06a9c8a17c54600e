package shelf_test

import (
	"math"
	"slices"
	"testing"

	"lampwright/api"
	"lampwright/internal/sample"
	"lampwright/shelf"
)

func wantList(t *testing.T, s api.Shelf, node int, l []int, decoded int, err api.Errno) {
	t.Helper()
	if got, gotDecoded, gotErr := shelf.List(s, node); !slices.Equal(got, l) || gotDecoded != decoded || gotErr != err {
		t.Errorf("List of node %d of %v: %v %d %d, must be %v %d %d", node, s, got, gotDecoded, gotErr, l, decoded, err)
	}
}

func wantLeads(t *testing.T, s api.Shelf, from, to int, leads bool, err api.Errno) {
	t.Helper()
	if got, gotErr := shelf.Leads(s, from, to); got != leads || gotErr != err {
		t.Errorf("Leads from %d to %d of %v: %t %d, must be %t %d", from, to, s, got, gotErr, leads, err)
	}
}

// decodedFor returns how many lists are decoded for that of a node.
func decodedFor(node int, backs []int) int {
	many := 1
	for ; backs[node] > 0; node -= backs[node] {
		many++
	}
	return many
}

// wantFound fails unless the lists of these nodes, and all arcs between them, are found as they are in the graph.
func wantFound(t *testing.T, g api.Graph, h api.How, some []int) {
	t.Helper()
	s := sample.Shelf(g, h)
	_, backs, _ := sample.Pack(g, h)
	for _, node := range some {
		wantList(t, s, node, g.Next[node], decodedFor(node, backs), api.OK)
		for _, to := range some {
			wantLeads(t, s, node, to, slices.Contains(g.Next[node], to), api.OK)
		}
	}
}

// all returns the nodes of a graph.
func all(g api.Graph) []int { return sample.Steps(0, 1, len(g.Next)) }

func TestQ2ByHand(t *testing.T) {
	for _, c := range []struct {
		g       api.Graph
		h       api.How
		decoded []int
	}{
		{sample.Graph([]int{0, 1}, []int{0, 1}, []int{0, 1}, nil), api.How{K: 1}, []int{1, 1, 1, 1}},
		{sample.Graph([]int{0, 1}, []int{0, 1}, []int{0, 1}, nil), api.How{Back: 1, K: 1}, []int{1, 2, 3, 1}},
		// Only the list of node 0 is like that of node 2.
		{sample.Graph([]int{0, 2}, nil, []int{0, 2}), api.How{Back: 3, Least: 2, K: 1}, []int{1, 1, 2}},
		{sample.Graph([]int{0, 2}, nil, []int{0, 2}), api.How{Back: 1, K: 1}, []int{1, 1, 1}},
		{sample.Graph(nil), api.How{Back: 7, K: 16}, []int{1}},
	} {
		s := sample.Shelf(c.g, c.h)
		for node, l := range c.g.Next {
			wantList(t, s, node, l, c.decoded[node], api.OK)
		}
	}
	s := sample.Shelf(sample.Graph([]int{1, 2}, []int{2}, []int{0}), api.How{Back: 2, K: 3})
	for _, arc := range [][2]int{{0, 1}, {0, 2}, {1, 2}, {2, 0}} {
		wantLeads(t, s, arc[0], arc[1], true, api.OK)
	}
	for _, arc := range [][2]int{{0, 0}, {1, 0}, {1, 1}, {2, 1}, {2, 2}} {
		wantLeads(t, s, arc[0], arc[1], false, api.OK)
	}
}

func TestQ2OfEachSmallGraph(t *testing.T) {
	for n := range 4 {
		for _, g := range sample.Graphs(n) {
			for _, h := range hows() {
				wantFound(t, g, h, all(g))
			}
		}
	}
}

func TestQ2OfMixedGraphs(t *testing.T) {
	for _, g := range sample.MixedGraphs()[:5] {
		for _, h := range append(hows(), api.How{Back: 7, K: 2}) {
			wantFound(t, g, h, all(g))
		}
	}
}

func TestQ2OfEdgeGraphs(t *testing.T) {
	for _, g := range sample.EdgeGraphs() {
		for _, h := range hows() {
			if text, _, _ := sample.Pack(g, h); len(text) > api.MaxLen {
				continue
			}
			n := len(g.Next)
			wantFound(t, g, h, slices.DeleteFunc([]int{0, 1, n / 2, n - 1}, func(node int) bool { return node < 0 || node >= n }))
		}
	}
}

// The list of each node is told by that of the node before, up to as many nodes as there may be.
func TestQ2OfLongChains(t *testing.T) {
	g := sample.Full(nodes, 0)
	for node := range nodes {
		g.Next[node] = []int{3, 7, 20, 50, 90, 99}
	}
	for _, back := range []int{1, 3, api.MaxBack} {
		s := sample.Shelf(g, api.How{Back: back, K: 2})
		for _, node := range []int{0, 1, 2, 50, nodes - 1} {
			wantList(t, s, node, g.Next[node], node+1, api.OK)
			wantLeads(t, s, node, 90, true, api.OK)
			wantLeads(t, s, node, 91, false, api.OK)
		}
	}
	s := sample.Shelf(g, api.How{Least: 2, K: 2})
	for _, node := range []int{0, 1, nodes - 1} {
		wantList(t, s, node, g.Next[node], 1, api.OK)
	}
}

// Each place before can be that of the reference: only the lists of every few nodes are alike.
func TestQ2OfChainsOfEachStep(t *testing.T) {
	for step := 1; step <= api.MaxBack; step++ {
		g := sample.Full(40, 0)
		for node := 0; node < 40; node += step {
			g.Next[node] = []int{0, 5, 11, 30, 38}
		}
		s := sample.Shelf(g, api.How{Back: api.MaxBack, Least: 3, K: 1})
		for node := range 40 {
			if node%step == 0 {
				wantList(t, s, node, g.Next[node], node/step+1, api.OK)
			} else {
				wantList(t, s, node, nil, 1, api.OK)
			}
		}
	}
}

func TestQ2Errors(t *testing.T) {
	for _, g := range append(sample.MixedGraphs()[:5], api.Graph{}, sample.Graph([]int{0}), sample.Full(nodes, 6)) {
		for _, h := range []api.How{{K: 1}, {Back: 7, Least: 2, K: 3}} {
			s := sample.Shelf(g, h)
			n := len(g.Next)
			for _, bad := range []int{math.MinInt, -1, n, n + 1, nodes, api.MaxNode, math.MaxInt} {
				wantList(t, s, bad, nil, 0, api.ErrRange)
				for _, other := range []int{math.MinInt, -1, 0, n - 1, n, math.MaxInt} {
					wantLeads(t, s, bad, other, false, api.ErrRange)
					wantLeads(t, s, other, bad, false, api.ErrRange)
				}
			}
		}
	}
}
