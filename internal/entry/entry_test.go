package entry_test

import (
	"math"
	"slices"
	"testing"

	"lampwright/api"
	"lampwright/internal/entry"
	"lampwright/internal/sample"
)

func packed(h api.How, text string) api.Packed { return api.Packed{How: h, Bits: sample.Bits(text)} }

// wantRead fails unless the list and the position after it are read, for which only the list of the node reference is asked for (-1: no list).
func wantRead(t *testing.T, g api.Graph, p api.Packed, at, node, reference int, l []int, after int, err api.Errno) {
	t.Helper()
	asked := -1
	got, gotAfter, gotErr := entry.Read(p, at, node, func(other int) []int {
		asked = other
		return g.Next[other]
	})
	if !slices.Equal(got, l) || gotAfter != after || gotErr != err || asked != reference {
		t.Errorf("Read of node %d at %d: %v %d %d, asked for %d, must be %v %d %d, %d", node, at, got, gotAfter, gotErr, asked, l, after, err, reference)
	}
}

// referenceOf returns the node that is back places before, or -1 if that is none.
func referenceOf(node, back int) int {
	if back == 0 {
		return -1
	}
	return node - back
}

func TestReadOfEachReference(t *testing.T) {
	for _, g := range sample.MixedGraphs() {
		for _, h := range sample.Hows() {
			for node, l := range g.Next {
				for back := range min(h.Back, node) + 1 {
					start := sample.Mixed(node % 9)
					text := start + sample.PackNode(g, node, back, h)
					wantRead(t, g, packed(h, text+"0110"), len(start), node, referenceOf(node, back), l, len(text), api.OK)
				}
			}
		}
	}
}

func TestReadRefusesReferencesThatAreNotThere(t *testing.T) {
	g := sample.Full(12, 0)
	for node := range 12 {
		for back := range api.MaxBack + 1 {
			for _, other := range []int{0, 1, 2, api.MaxBack, api.MaxBack + 1, node, node + 1, 40} {
				h := api.How{Back: back, K: 1}
				text := sample.Gamma(uint64(other)) + "1"
				switch {
				case back == 0:
				case other <= back && other <= node:
					wantRead(t, g, packed(h, text), 0, node, referenceOf(node, other), nil, len(text), api.OK)
				default:
					wantRead(t, g, packed(h, text), 0, node, -1, nil, 0, api.ErrRange)
				}
			}
		}
	}
}

func TestReadErrors(t *testing.T) {
	h := api.How{Back: 1, K: 1}
	g := sample.Graph([]int{0}, []int{0})
	wantRead(t, g, packed(h, ""), 0, 0, -1, nil, 0, api.ErrShort)
	wantRead(t, g, packed(h, "11"), 3, 0, -1, nil, 0, api.ErrRange)
	wantRead(t, g, packed(h, "1"), 0, 0, -1, nil, 0, api.ErrForm)
	wantRead(t, g, packed(h, "010"), 0, 1, 0, nil, 0, api.ErrForm)
	wantRead(t, g, packed(api.How{K: 1}, ""), 0, 0, -1, nil, 0, api.ErrForm)
}

func TestFarthestAndWith(t *testing.T) {
	for _, c := range [][3]int{{0, 0, 0}, {0, 9, 0}, {1, 0, 0}, {1, 9, 1}, {7, 6, 6}, {7, 7, 7}, {7, 8, 7}} {
		h := api.How{Back: c[0], Least: 2, K: 3}
		if got := entry.Farthest(h, c[1]); got != c[2] {
			t.Errorf("Farthest of %v, %d: %d", h, c[1], got)
		}
		for _, back := range []int{0, 1, c[1], math.MaxInt} {
			if got := entry.With(h, back); got != (api.How{Back: back, Least: 2, K: 3}) {
				t.Errorf("With of %v, %d: %v", h, back, got)
			}
		}
	}
}
