package pack_test

import (
	"slices"
	"strings"
	"testing"

	"lampwright/api"
	"lampwright/internal/sample"
	"lampwright/pack"
)

const nodes, most = api.MaxNodes, api.MaxArcs

// hows are ways of encoding that differ in all that matters for few nodes.
func hows() []api.How {
	return []api.How{{K: 1}, {Least: 2, K: 2}, {Back: 1, K: 1}, {Back: 1, Least: 2, K: 1}, {Back: 2, Least: 3, K: 3}, {Back: 7, K: 16}, {Back: 7, Least: 2, K: 1}}
}

// packed returns the bits of a text that describes n nodes.
func packed(n int, h api.How, text string) api.Packed {
	return api.Packed{N: n, How: h, Bits: sample.Bits(text)}
}

// wantWritten fails unless the graph has this text, and for each node these places before it and this position.
func wantWritten(t *testing.T, g api.Graph, h api.How, text string, backs, starts []int) {
	t.Helper()
	if got, err := pack.Write(g, h); !sample.SamePacked(got, packed(len(g.Next), h, text)) || err != api.OK {
		t.Errorf("Write of %v, %v: %v %d, must be %s", g, h, got, err, text)
	}
	if gotBacks, gotStarts, err := pack.Told(g, h); !slices.Equal(gotBacks, backs) || !slices.Equal(gotStarts, starts) || err != api.OK {
		t.Errorf("Told of %v, %v: %v %v %d, must be %v %v", g, h, gotBacks, gotStarts, err, backs, starts)
	}
}

// wantNotWritten fails unless this is the error for the graph.
func wantNotWritten(t *testing.T, g api.Graph, h api.How, err api.Errno) {
	t.Helper()
	if got, gotErr := pack.Write(g, h); !sample.SamePacked(got, api.Packed{}) || gotErr != err {
		t.Errorf("Write of %d nodes, %v: %v %d, must be %d", len(g.Next), h, got, gotErr, err)
	}
	if backs, starts, gotErr := pack.Told(g, h); len(backs)+len(starts) != 0 || gotErr != err {
		t.Errorf("Told of %d nodes, %v: %v %v %d, must be %d", len(g.Next), h, backs, starts, gotErr, err)
	}
}

func wantRead(t *testing.T, p api.Packed, want api.Graph, err api.Errno) {
	t.Helper()
	if got, gotErr := pack.Read(p); !sample.SameGraph(got, want) || gotErr != err {
		t.Errorf("Read of %d nodes, %v, %d bits: %v %d, must be %v %d", p.N, p.How, p.Bits.Len, got, gotErr, want, err)
	}
}

// wantBoth fails unless what N1 says of the graph is written and read.
func wantBoth(t *testing.T, g api.Graph, h api.How) {
	t.Helper()
	text, backs, starts := sample.Pack(g, h)
	wantWritten(t, g, h, text, backs, starts)
	wantRead(t, packed(len(g.Next), h, text), g, api.OK)
}

func TestN1N2N3ByHand(t *testing.T) {
	plain, back, far := api.How{K: 1}, api.How{Back: 1, K: 1}, api.How{Back: 3, Least: 2, K: 1}
	same := sample.Graph([]int{0, 1}, []int{0, 1}, []int{0, 1})
	for _, c := range []struct {
		g             api.Graph
		h             api.How
		text          []string
		backs, starts []int
	}{
		{api.Graph{}, plain, nil, nil, nil},
		{api.Graph{}, far, nil, nil, nil},
		{sample.Graph(nil), plain, []string{"1"}, []int{0}, []int{0}},
		{sample.Graph(nil, nil), back, []string{"11", "11"}, []int{0, 0}, []int{0, 2}},
		{sample.Graph([]int{0}), plain, []string{"0101"}, []int{0}, []int{0}},
		{sample.Graph([]int{0}), back, []string{"1" + "0101"}, []int{0}, []int{0}},
		// A reference is not worth it if it needs as many bits as none: 010 and 1 are as many as 1 and 010.
		{sample.Graph([]int{0}, []int{0}), back, []string{"1" + "010" + "1", "1" + "010" + "010"}, []int{0, 0}, []int{0, 5}},
		{same, plain, []string{"011" + "1" + "1", "011" + "010" + "1", "011" + "00100" + "1"}, []int{0, 0, 0}, []int{0, 5, 12}},
		{same, back, []string{"1" + "011" + "1" + "1", "010" + "011" + "1", "010" + "011" + "1"}, []int{0, 1, 1}, []int{0, 6, 13}},
		// With 2 places before instead of 1, the bits are as many: 011 and 010.
		{same, far, []string{"1" + "011" + "010" + "1" + "1", "010" + "011" + "1", "010" + "011" + "1"}, []int{0, 1, 1}, []int{0, 9, 16}},
		// Only node 0, which is 2 places before, has a list that is like that of node 2.
		{sample.Graph([]int{0, 2}, nil, []int{0, 2}), far, []string{"1" + "011" + "1" + "1" + "010", "1" + "1", "011" + "011" + "1"}, []int{0, 0, 2}, []int{0, 9, 11}},
		{sample.Graph([]int{0, 2}, nil, []int{0, 2}), back, []string{"1" + "011" + "1" + "010", "1" + "1", "1" + "011" + "00100" + "010"}, []int{0, 0, 0}, []int{0, 8, 10}},
	} {
		text := strings.Join(c.text, "")
		wantWritten(t, c.g, c.h, text, c.backs, c.starts)
		wantRead(t, packed(len(c.g.Next), c.h, text), c.g, api.OK)
	}
}

func TestN1N2N3OfEachSmallGraph(t *testing.T) {
	for n := range 4 {
		for _, g := range sample.Graphs(n) {
			for _, h := range hows() {
				wantBoth(t, g, h)
			}
		}
	}
}

func TestN1N2N3OfMixedGraphs(t *testing.T) {
	for _, g := range sample.MixedGraphs() {
		for _, h := range sample.Hows() {
			wantBoth(t, g, h)
		}
	}
}

// The reference can be each number of places before, up to Back: the list that is like that of the last node is that far before.
func TestN1EachPlaceBefore(t *testing.T) {
	for far := 1; far < 10; far++ {
		g := sample.Full(12, 0)
		g.Next[11-far], g.Next[11] = []int{0, 3, 6, 9}, []int{0, 3, 6, 9, 10}
		for back := range api.MaxBack + 1 {
			h := api.How{Back: back, Least: 3, K: 4}
			wantBoth(t, g, h)
			backs, _, _ := pack.Told(g, h)
			if want := map[bool]int{true: far}[far <= back]; backs[11] != want {
				t.Errorf("Told with Back %d: the list %d places before is %d", back, far, backs[11])
			}
		}
	}
}

// With K 16, not all graphs with as many arcs as there may be have room.
func TestN1N2N3OfEdgeGraphs(t *testing.T) {
	full := 0
	for _, g := range sample.EdgeGraphs() {
		for _, h := range append(hows(), api.How{K: 16}, api.How{Back: 1, Least: api.MaxList, K: 2}) {
			if text, _, _ := sample.Pack(g, h); len(text) > api.MaxLen {
				wantNotWritten(t, g, h, api.ErrFull)
				full++
			} else {
				wantBoth(t, g, h)
			}
		}
	}
	if full == 0 {
		t.Error("all graphs have room")
	}
}

func TestN1N2ErrFullAtTheEdge(t *testing.T) {
	h := api.How{K: 16}
	for zeros := range 20 {
		g := sample.Long(zeros)
		text, _, _ := sample.Pack(g, h)
		if len(text) != api.MaxLen+9-zeros {
			t.Fatalf("the text has %d signs", len(text))
		}
		if zeros < 9 {
			wantNotWritten(t, g, h, api.ErrFull)
		} else {
			wantBoth(t, g, h)
		}
	}
	// What has no room without references can have it with them.
	same := sample.Full(nodes, 0)
	for node := range nodes {
		same.Next[node] = sample.Steps(0, 7, 6)
	}
	wantNotWritten(t, same, h, api.ErrFull)
	wantBoth(t, same, api.How{Back: 1, K: 16})
}

func TestN1N2Errors(t *testing.T) {
	for _, w := range sample.WrongGraphs() {
		for _, h := range append(sample.WrongHows(), hows()...) {
			wantNotWritten(t, w.Graph, h, w.Err)
		}
	}
	for _, g := range append(sample.MixedGraphs(), api.Graph{}, sample.Full(nodes, 6), sample.Long(0)) {
		for _, h := range sample.WrongHows() {
			wantNotWritten(t, g, h, api.ErrRange)
		}
	}
}
