package shelf_test

import (
	"testing"

	"lampwright/api"
	"lampwright/internal/sample"
	"lampwright/shelf"
)

const nodes = api.MaxNodes

// hows are ways of encoding that differ in all that matters for few nodes.
func hows() []api.How {
	return []api.How{{K: 1}, {Least: 2, K: 16}, {Back: 1, K: 1}, {Back: 2, Least: 3, K: 3}, {Back: 7, Least: 2, K: 1}}
}

// wantBuilt fails unless what Q1 says of the graph is built, and is right.
func wantBuilt(t *testing.T, g api.Graph, h api.How) {
	t.Helper()
	want := sample.Shelf(g, h)
	if got, err := shelf.Build(g, h); !sample.SameShelf(got, want) || err != api.OK {
		t.Errorf("Build of %v, %v: %v %d, must be %v", g, h, got, err, want)
	}
	wantCheck(t, want, api.OK)
}

// wantNotBuilt fails unless this is the error for the graph.
func wantNotBuilt(t *testing.T, g api.Graph, h api.How, err api.Errno) {
	t.Helper()
	if got, gotErr := shelf.Build(g, h); !sample.SameShelf(got, api.Shelf{}) || gotErr != err {
		t.Errorf("Build of %d nodes, %v: %v %d, must be %d", len(g.Next), h, got, gotErr, err)
	}
}

func wantCheck(t *testing.T, s api.Shelf, err api.Errno) {
	t.Helper()
	if got := shelf.Check(s); got != err {
		t.Errorf("Check of %v: %d, must be %d", s, got, err)
	}
}

func TestQ1ByHand(t *testing.T) {
	h, far := api.How{K: 1}, api.How{Back: 3, Least: 2, K: 1}
	same := sample.Graph([]int{0, 1}, []int{0, 1}, []int{0, 1})
	for _, c := range []struct {
		g                   api.Graph
		h                   api.How
		text                string
		top, width          int
		lowStarts, highRest string
	}{
		{api.Graph{}, h, "", 0, 0, "", "0"},
		{api.Graph{}, far, "", 0, 0, "", "0"},
		{sample.Graph(nil), h, "1", 1, 1, "0", "10"},
		{sample.Graph(nil), far, "11", 2, 1, "0", "100"},
		{sample.Graph([]int{0}), h, "0101", 4, 2, "00", "100"},
		// The nodes begin at 0, 5 and 12, and 3 * 4 is at most 19 + 1.
		{same, h, "011" + "1" + "1" + "011" + "010" + "1" + "011" + "00100" + "1", 21, 2, "00" + "01" + "00", "10" + "10" + "0" + "10" + "0" + "0"},
		// The nodes begin at 0, 9 and 16, and the two last ones have the one before as reference.
		{same, far, "1" + "011" + "010" + "1" + "1" + "010" + "011" + "1" + "010" + "011" + "1", 23, 3, "000" + "001" + "000", "10" + "10" + "10"},
	} {
		n := len(c.g.Next)
		starts := api.Fano{N: n, Top: c.top, Width: c.width, Low: sample.Bits(c.lowStarts), High: sample.Bits(c.highRest)}
		want := api.Shelf{Packed: api.Packed{N: n, How: c.h, Bits: sample.Bits(c.text)}, Starts: starts}
		if got, err := shelf.Build(c.g, c.h); !sample.SameShelf(got, want) || err != api.OK {
			t.Errorf("Build of %v, %v: %v %d, must be %v", c.g, c.h, got, err, want)
		}
		wantCheck(t, want, api.OK)
	}
}

func TestQ1OfEachSmallGraph(t *testing.T) {
	for n := range 4 {
		for _, g := range sample.Graphs(n) {
			for _, h := range hows() {
				wantBuilt(t, g, h)
			}
		}
	}
}

func TestQ1OfMixedGraphs(t *testing.T) {
	for _, g := range sample.MixedGraphs() {
		for _, h := range sample.Hows() {
			wantBuilt(t, g, h)
		}
	}
}

// With K 16, not all graphs with as many arcs as there may be have room.
func TestQ1OfEdgeGraphs(t *testing.T) {
	full := 0
	for _, g := range sample.EdgeGraphs() {
		for _, h := range append(hows(), api.How{K: 16}) {
			if text, _, _ := sample.Pack(g, h); len(text) > api.MaxLen {
				wantNotBuilt(t, g, h, api.ErrFull)
				full++
			} else {
				wantBuilt(t, g, h)
			}
		}
	}
	if full == 0 {
		t.Error("all graphs have room")
	}
}

func TestQ1ErrFullAtTheEdge(t *testing.T) {
	h := api.How{K: 16}
	for zeros := range 20 {
		g := sample.Long(zeros)
		switch s := sample.Shelf(g, h); {
		case zeros < 9:
			wantNotBuilt(t, g, h, api.ErrFull)
			wantCheck(t, s, api.ErrRange)
		case zeros == 9 && s.Starts.Top != api.MaxLen:
			t.Errorf("the shelf has %d bits", s.Starts.Top)
		default:
			wantBuilt(t, g, h)
		}
	}
}

func TestQ1BuildErrors(t *testing.T) {
	for _, w := range sample.WrongGraphs() {
		for _, h := range append(sample.WrongHows(), hows()...) {
			wantNotBuilt(t, w.Graph, h, w.Err)
		}
	}
	for _, g := range append(sample.MixedGraphs(), api.Graph{}, sample.Full(nodes, 6), sample.Long(0)) {
		for _, h := range sample.WrongHows() {
			wantNotBuilt(t, g, h, api.ErrRange)
		}
	}
}
