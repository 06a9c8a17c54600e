package desk_test

import (
	"fmt"
	"slices"
	"testing"

	"lampwright/api"
	"lampwright/desk"
	"lampwright/internal/sample"
)

const nodes, arcs = api.MaxNodes, api.MaxArcs

// plain and mixed are ways of encoding.
var (
	plain = api.How{K: 1}
	mixed = api.How{Back: 2, Least: 3, K: 1}
)

func deskOf(g api.Graph, h api.How) api.Desk { return api.Desk{Graph: g, How: h} }

func sameDesk(a, b api.Desk) bool { return a.How == b.How && sample.SameGraph(a.Graph, b.Graph) }

// spell writes a list as a reply.
func spell(l []int) string {
	s := fmt.Sprint(l)
	return s[1 : len(s)-1]
}

func wantCheck(t *testing.T, d api.Desk, err api.Errno) {
	t.Helper()
	if got := desk.Check(d); got != err {
		t.Errorf("Check of %v: %d, must be %d", d, got, err)
	}
}

func wantDo(t *testing.T, d api.Desk, line string, after api.Desk, reply string, err api.Errno) {
	t.Helper()
	if got, gotReply, gotErr := desk.Do(d, line); !sameDesk(got, after) || gotReply != reply || gotErr != err {
		t.Errorf("Do of %.60q at %v: %v %q %d, must be %v %q %d", line, d, got, gotReply, gotErr, after, reply, err)
	}
}

// wantDone fails unless the line leaves a desk with this graph and the same way of encoding.
func wantDone(t *testing.T, d api.Desk, line string, g api.Graph) {
	t.Helper()
	wantDo(t, d, line, deskOf(g, d.How), "ok", api.OK)
}

// wantReply fails unless the line has this reply, and leaves the desk as it is.
func wantReply(t *testing.T, d api.Desk, line, reply string) {
	t.Helper()
	wantDo(t, d, line, d, reply, api.OK)
}

func wantError(t *testing.T, d api.Desk, line string, err api.Errno) {
	t.Helper()
	wantDo(t, d, line, api.Desk{}, "", err)
}

func TestX1Check(t *testing.T) {
	right := slices.Concat(sample.SmallGraphs()[:40], sample.GreatGraphs())
	for _, h := range sample.Hows() {
		for _, g := range right {
			wantCheck(t, deskOf(g, h), api.OK)
		}
	}
	for _, h := range sample.WrongHows() {
		for _, g := range right {
			wantCheck(t, deskOf(g, h), api.ErrRange)
		}
	}
	// The error of the graph comes before that of the way of encoding.
	for _, w := range sample.WrongGraphs() {
		for _, h := range append(sample.WrongHows()[:3], plain, mixed) {
			wantCheck(t, deskOf(w.Graph, h), w.Err)
		}
	}
	// The zero desk has no K.
	wantCheck(t, api.Desk{}, api.ErrRange)
}

// A graph that needs too many bits is one all the same.
func TestX1CheckOfManyBits(t *testing.T) {
	wantCheck(t, deskOf(sample.Long(0), api.How{K: 16}), api.OK)
}

func TestX2ByHand(t *testing.T) {
	d := deskOf(sample.Graph([]int{1}, []int{2}, []int{0, 3}, nil, nil), mixed)
	wantDone(t, d, "nodes 2", sample.Graph(nil, nil))
	wantDone(t, d, "nodes 0", api.Graph{})
	wantDone(t, d, "arc 2 1", sample.Graph([]int{1}, []int{2}, []int{0, 1, 3}, nil, nil))
	wantDone(t, d, "arc 4 4", sample.Graph([]int{1}, []int{2}, []int{0, 3}, nil, []int{4}))
	wantDone(t, d, "drop 2 0", sample.Graph([]int{1}, []int{2}, []int{3}, nil, nil))
	wantDone(t, d, "drop 0 1", sample.Graph(nil, []int{2}, []int{0, 3}, nil, nil))
	wantDo(t, d, "how 0 300 16", deskOf(d.Graph, api.How{Least: 300, K: 16}), "ok", api.OK)
	wantReply(t, d, "bits", "33")
	wantReply(t, d, "list 2", "0 3")
	wantReply(t, d, "list 0", "1")
	wantReply(t, d, "list 4", "")
	wantReply(t, d, "far 0 3", "3")
	wantReply(t, d, "far 3 3", "0")
	wantReply(t, d, "far 3 0", "none")
	wantReply(t, d, "way 0 3", "0 1 2 3")
	wantReply(t, d, "way 4 4", "4")
	wantReply(t, d, "way 3 0", "none")
	wantReply(t, d, "part 2", "0")
	wantReply(t, d, "part 3", "3")
	wantReply(t, d, "order", "none")
	wantReply(t, d, "core 1", "2")
	wantReply(t, d, "core 3", "1")
	wantReply(t, d, "core 4", "0")
	wantReply(t, d, "threes", "1")
	back := deskOf(sample.Graph(nil, []int{0}, []int{1}), mixed)
	wantReply(t, back, "order", "2 1 0")
	wantReply(t, back, "threes", "0")
	wantReply(t, back, "part 2", "2")
	// Nodes have as many digits as they need.
	full := deskOf(sample.Full(nodes, 0), mixed)
	wantReply(t, full, "order", spell(sample.Steps(0, 1, nodes)))
	wantReply(t, full, "part 99", "99")
	wantReply(t, full, "way 99 99", "99")
}

// The graph without nodes has replies that are empty, and no node.
func TestX2WithoutNodes(t *testing.T) {
	d := deskOf(api.Graph{}, plain)
	wantReply(t, d, "order", "")
	wantReply(t, d, "bits", "0")
	wantReply(t, d, "threes", "0")
	wantDone(t, d, "nodes 0", api.Graph{})
	wantDone(t, d, "nodes 1", sample.Graph(nil))
	for _, line := range []string{"arc 0 0", "drop 0 0", "list 0", "far 0 0", "way 0 0", "part 0", "core 0"} {
		wantError(t, d, line, api.ErrRange)
	}
}

// The commands of the document, one after the other.
func TestX2OneAfterTheOther(t *testing.T) {
	d := deskOf(api.Graph{}, mixed)
	for _, c := range []struct{ line, reply string }{
		{"nodes 4", "ok"},
		{"arc 3 0", "ok"},
		{"arc 0 2", "ok"},
		{"arc 0 1", "ok"},
		{"arc 1 2", "ok"},
		{"list 0", "1 2"},
		{"order", "3 0 1 2"},
		{"way 3 2", "3 0 2"},
		{"far 3 2", "2"},
		{"threes", "1"},
		{"core 3", "1"},
		{"drop 0 2", "ok"},
		{"way 3 2", "3 0 1 2"},
		{"threes", "0"},
		{"how 0 0 3", "ok"},
		{"bits", "22"},
		{"arc 2 3", "ok"},
		{"order", "none"},
		{"part 3", "0"},
		{"nodes 1", "ok"},
		{"order", "0"},
	} {
		after, reply, err := desk.Do(d, c.line)
		if reply != c.reply || err != api.OK {
			t.Errorf("Do of %q at %v: %q %d, must be %q", c.line, d, reply, err, c.reply)
		}
		d = after
	}
	if !sameDesk(d, deskOf(sample.Graph(nil), api.How{K: 3})) {
		t.Errorf("the desk becomes %v", d)
	}
}
