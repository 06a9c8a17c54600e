package load_test

import (
	"bytes"
	"math"
	"testing"

	"lampwright/api"
	"lampwright/internal/sample"
	"lampwright/load"
)

const nodes, most = api.MaxNodes, api.MaxArcs

// hows are ways of encoding that differ in all that matters for few nodes.
func hows() []api.How {
	return []api.How{{K: 1}, {Least: 2, K: 16}, {Back: 1, K: 1}, {Back: 2, Least: 3, K: 3}, {Back: 7, Least: 2, K: 1}}
}

func wantSave(t *testing.T, g api.Graph, kind int, h api.How, b []byte, err api.Errno) {
	t.Helper()
	if got, gotErr := load.Save(g, kind, h); !bytes.Equal(got, b) || gotErr != err {
		t.Errorf("Save of %d nodes, kind %d, %v: %v %d, must be %v %d", len(g.Next), kind, h, got, gotErr, b, err)
	}
}

// arcsOf counts the arcs of a graph.
func arcsOf(g api.Graph) int {
	many := 0
	for _, l := range g.Next {
		many += len(l)
	}
	return many
}

// wantGaps fails unless the graph has its file of KindGaps, whatever the way of encoding, and this is read.
func wantGaps(t *testing.T, g api.Graph, h api.How) {
	t.Helper()
	b := sample.GapsFile(g)
	wantSave(t, g, api.KindGaps, h, b, api.OK)
	wantRead(t, b, g, 1+len(g.Next)+arcsOf(g))
}

// wantBits fails unless the graph has its file of KindBits, and this is read.
func wantBits(t *testing.T, g api.Graph, h api.How) {
	t.Helper()
	b := sample.BitsFile(g, h)
	text, _, _ := sample.Pack(g, h)
	wantSave(t, g, api.KindBits, h, b, api.OK)
	wantRead(t, b, g, len(text))
}

// wantBoth fails unless the graph has both kinds of files, and they are read.
func wantBoth(t *testing.T, g api.Graph, h api.How) {
	t.Helper()
	wantGaps(t, g, h)
	wantBits(t, g, h)
}

func TestS1S2S3ByHand(t *testing.T) {
	plain, far := api.How{K: 1}, api.How{Back: 7, Least: 300, K: 16}
	three := sample.Graph([]int{1, 2}, []int{0}, nil)
	wide := sample.Full(70, 0)
	wide.Next[0], wide.Next[69] = []int{64, 69}, []int{0, 3}
	empty := bytes.Repeat([]byte{0}, 68)
	for _, c := range []struct {
		g           api.Graph
		kind        int
		h           api.How
		b           []byte
		arcs, steps int
	}{
		{api.Graph{}, api.KindGaps, plain, []byte{76, 87, 1, 0}, 0, 1},
		{sample.Graph(nil), api.KindGaps, plain, []byte{76, 87, 1, 1, 0}, 0, 2},
		{sample.Graph([]int{0}), api.KindGaps, plain, []byte{76, 87, 1, 1, 1, 0}, 1, 3},
		{three, api.KindGaps, far, []byte{76, 87, 1, 3, 2, 2, 0, 1, 1, 0}, 3, 7},
		// The gaps 128 and 137 need two bytes, but are one step each.
		{wide, api.KindGaps, plain, append(append([]byte{76, 87, 1, 70, 2, 128, 1, 4}, empty...), 2, 137, 1, 2), 4, 75},
		{api.Graph{}, api.KindBits, plain, []byte{76, 87, 2, 0, 0, 0, 1, 0}, 0, 0},
		{api.Graph{}, api.KindBits, far, []byte{76, 87, 2, 0, 7, 172, 2, 16, 0}, 0, 0},
		{sample.Graph(nil), api.KindBits, plain, []byte{76, 87, 2, 1, 0, 0, 1, 1, 0b10000000}, 0, 1},
		{sample.Graph([]int{0}), api.KindBits, plain, []byte{76, 87, 2, 1, 0, 0, 1, 4, 0b01010000}, 1, 4},
		{sample.Graph([]int{0}), api.KindBits, api.How{Back: 3, K: 1}, []byte{76, 87, 2, 1, 3, 0, 1, 5, 0b10101000}, 1, 5},
		// The lists are 011 011 1, 010 010, and 1.
		{three, api.KindBits, plain, []byte{76, 87, 2, 3, 0, 0, 1, 14, 0b01101110, 0b10010100}, 3, 14},
	} {
		wantSave(t, c.g, c.kind, c.h, c.b, api.OK)
		wantCost(t, c.b, api.Quota{Bytes: len(c.b), Nodes: len(c.g.Next), Arcs: c.arcs, Steps: c.steps}, api.OK)
		wantLoad(t, c.b, huge(), c.g, c.steps, api.OK)
	}
}

func TestS1S2S3OfEachSmallGraph(t *testing.T) {
	for n := range 4 {
		for _, g := range sample.Graphs(n) {
			for _, h := range hows() {
				wantBoth(t, g, h)
			}
		}
	}
}

func TestS1S2S3OfMixedGraphs(t *testing.T) {
	for _, g := range sample.MixedGraphs() {
		for _, h := range sample.Hows() {
			wantBoth(t, g, h)
		}
	}
}

// With K 16, not all graphs with as many arcs as there may be have room for their bits, but all have a file of KindGaps.
func TestS1S2S3OfEdgeGraphs(t *testing.T) {
	full := 0
	for _, g := range sample.EdgeGraphs() {
		for _, h := range append(hows(), api.How{K: 16}) {
			wantGaps(t, g, h)
			if text, _, _ := sample.Pack(g, h); len(text) > api.MaxLen {
				wantSave(t, g, api.KindBits, h, nil, api.ErrFull)
				full++
			} else {
				wantBits(t, g, h)
			}
		}
	}
	if full == 0 {
		t.Error("all graphs have room")
	}
}

func TestS1S2ErrFullAtTheEdge(t *testing.T) {
	h := api.How{K: 16}
	for zeros := range 20 {
		g := sample.Long(zeros)
		if zeros < 9 {
			wantSave(t, g, api.KindBits, h, nil, api.ErrFull)
			wantRefused(t, sample.BitsFile(g, h))
			continue
		}
		wantBits(t, g, h)
	}
}

// Each two graphs have different files of each kind and way of encoding.
func TestS1FilesDiffer(t *testing.T) {
	for kind := api.KindGaps; kind <= api.KindBits; kind++ {
		for _, h := range hows() {
			files := map[string]bool{}
			many := 0
			for n := range 4 {
				for _, g := range sample.Graphs(n) {
					b, _ := load.Save(g, kind, h)
					files[string(b)] = true
					many++
				}
			}
			if len(files) != many {
				t.Errorf("%d graphs have %d files of kind %d, %v", many, len(files), kind, h)
			}
		}
	}
}

// wrongKinds are those that there are not. As a byte, some of them are others.
func wrongKinds() []int {
	return []int{math.MinInt, math.MinInt + 1, -255, -254, -1, 0, 3, 4, 76, 255, 256, 257, 258, 1<<16 + 1, 1<<32 + 1, 1<<32 + 2, math.MaxInt}
}

func TestS1ErrorsInOrder(t *testing.T) {
	kinds := append(wrongKinds(), api.KindGaps, api.KindBits)
	for _, w := range sample.WrongGraphs() {
		for _, kind := range kinds {
			wantSave(t, w.Graph, kind, api.How{K: 1}, nil, w.Err)
			wantSave(t, w.Graph, kind, api.How{}, nil, w.Err)
		}
	}
	for _, g := range append(sample.MixedGraphs(), api.Graph{}, sample.Full(nodes, 6), sample.Long(0)) {
		for _, h := range append(sample.WrongHows(), hows()...) {
			for _, kind := range wrongKinds() {
				wantSave(t, g, kind, h, nil, api.ErrRange)
			}
		}
		// The way of encoding is wrong, which comes before too many bits, and matters only for KindBits.
		for _, h := range sample.WrongHows() {
			wantSave(t, g, api.KindBits, h, nil, api.ErrRange)
			wantSave(t, g, api.KindGaps, h, sample.GapsFile(g), api.OK)
		}
	}
}
