package text_test

import (
	"fmt"
	"slices"
	"strings"
	"testing"

	"lampwright/api"
	"lampwright/internal/sample"
	"lampwright/text"
)

const nodes, most = api.MaxNodes, api.MaxArcs

// rightGraphs are all graphs with at most 3 nodes, and many others.
func rightGraphs() []api.Graph {
	all := slices.Concat(sample.MixedGraphs(), sample.EdgeGraphs())
	for n := range 4 {
		all = append(all, sample.Graphs(n)...)
	}
	return all
}

// spelled looks for each arc that there can be in the lists of a graph.
func spelled(g api.Graph) string {
	var s strings.Builder
	fmt.Fprintf(&s, "%d\n", len(g.Next))
	for from := range g.Next {
		for to := range g.Next {
			if slices.Contains(g.Next[from], to) {
				fmt.Fprintf(&s, "%d %d\n", from, to)
			}
		}
	}
	return s.String()
}

func wantPrinted(t *testing.T, g api.Graph, want string, err api.Errno) {
	t.Helper()
	if got, gotErr := text.Print(g); got != want || gotErr != err {
		t.Errorf("Print of %d nodes: %q %d, must be %q %d", len(g.Next), got, gotErr, want, err)
	}
}

func TestR1ByHand(t *testing.T) {
	wantPrinted(t, api.Graph{}, "0\n", api.OK)
	wantPrinted(t, sample.Graph(nil), "1\n", api.OK)
	wantPrinted(t, sample.Graph([]int{0}), "1\n0 0\n", api.OK)
	wantPrinted(t, sample.Graph([]int{1, 2}, nil, []int{0, 2}), "3\n0 1\n0 2\n2 0\n2 2\n", api.OK)
	g := sample.Full(nodes, 0)
	g.Next[9], g.Next[10], g.Next[99] = []int{2, 10}, []int{9, 11, 99}, []int{0, 9, 10, 99}
	wantPrinted(t, g, "100\n9 2\n9 10\n10 9\n10 11\n10 99\n99 0\n99 9\n99 10\n99 99\n", api.OK)
}

func TestR1Print(t *testing.T) {
	for _, g := range rightGraphs() {
		wantPrinted(t, g, spelled(g), api.OK)
	}
}

func TestR1Error(t *testing.T) {
	for _, w := range sample.WrongGraphs() {
		wantPrinted(t, w.Graph, "", w.Err)
	}
}

// Each number of nodes is allowed up to MaxNodes, and each number of arcs up to MaxArcs.
func TestR1AtTheEdges(t *testing.T) {
	for n := range nodes + 3 {
		g := sample.Full(n, 0)
		if n <= nodes {
			wantPrinted(t, g, spelled(g), api.OK)
		} else {
			wantPrinted(t, g, "", api.ErrMany)
		}
	}
	for many := most - 3; many < most+3; many++ {
		g := sample.Full(nodes, many/nodes)
		g.Next[nodes-1] = sample.Steps(0, 1, many%nodes)
		if many <= most {
			wantPrinted(t, g, spelled(g), api.OK)
		} else {
			wantPrinted(t, g, "", api.ErrMany)
		}
	}
}

// What is printed is parsed, as the same graph.
func TestR1R2ThereAndBack(t *testing.T) {
	for _, g := range rightGraphs() {
		printed, _ := text.Print(g)
		wantParsed(t, printed, g)
	}
}
