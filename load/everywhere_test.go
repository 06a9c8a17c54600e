package load_test

import (
	"bytes"
	"math"
	"testing"

	"lampwright/api"
	"lampwright/graph"
	"lampwright/internal/sample"
	"lampwright/load"
)

// oddFiles are right and wrong files.
func oddFiles() [][]byte {
	all := append(someFiles(), nil, []byte{}, []byte("L"), []byte("LW"), []byte("LW\x01"), []byte("LW\x02"), make([]byte, api.MaxBytes), make([]byte, api.MaxBytes+1))
	for _, n := range []byte{0, 1, 127, 128, 254, 255} {
		for _, kind := range []string{"LW\x00", "LW\x01", "LW\x02", "LW\x03", "LW\xff"} {
			for _, many := range []int{1, 2, 5, 9, 10, 11, 50, api.MaxBytes - 3} {
				all = append(all, append([]byte(kind), bytes.Repeat([]byte{n}, many)...))
			}
		}
	}
	return all
}

func oddQuotas() []api.Quota {
	all := []api.Quota{{}, huge(), {Bytes: -1, Nodes: -1, Arcs: -1, Steps: -1}, {Bytes: 100, Nodes: 3, Arcs: 5, Steps: 20}, none(api.MaxBytes)}
	for i := range 4 {
		q := huge()
		*fields(&q)[i] = math.MinInt
		all = append(all, q)
	}
	return all
}

func TestP1SaveReturnsForAllArguments(t *testing.T) {
	for _, g := range sample.OddGraphs() {
		for _, h := range sample.OddHows() {
			for _, kind := range append(wrongKinds(), api.KindGaps, api.KindBits) {
				b, err := load.Save(g, kind, h)
				if err != api.OK && len(b) != 0 {
					t.Errorf("Save: %v beside the error %d", b, err)
				}
				if _, wrong := load.Cost(b); err == api.OK && wrong != api.OK {
					t.Errorf("what is saved of %v has the error %d", g, wrong)
				}
			}
		}
	}
}

func TestP1ReturnsForAllFiles(t *testing.T) {
	for _, b := range oddFiles() {
		cost, wrong := load.Cost(b)
		if wrong != api.OK && cost != (api.Quota{}) {
			t.Errorf("Cost: %v beside the error %d", cost, wrong)
		}
		for _, q := range oddQuotas() {
			g, steps, err := load.Load(b, q)
			if err != api.OK && (g.Next != nil || steps != 0) || err == api.OK && (wrong != api.OK || graph.Check(g) != api.OK || steps != cost.Steps) {
				t.Errorf("Load: %v %d beside the error %d", g, steps, err)
			}
		}
	}
}

func TestP2ArgumentsStayAsTheyAre(t *testing.T) {
	for _, g := range append(sample.OddGraphs(), sample.Graphs(2)...) {
		for _, h := range sample.OddHows() {
			m := sample.AroundGraph(g, 1)
			for kind := range 4 {
				b, _ := load.Save(m.Graph, kind, h)
				sample.Flip(b)
			}
			if m.Changed() {
				t.Errorf("the graph %v is changed", g)
			}
		}
	}
	for _, b := range oddFiles() {
		m := sample.Around(b, 0xa5)
		load.Cost(m.List)
		for _, q := range oddQuotas() {
			g, _, _ := load.Load(m.List, q)
			sample.FlipGraph(g)
		}
		if m.Changed() {
			t.Errorf("the file %v is changed", b)
		}
	}
}

func TestP2ResultsShareNoMemory(t *testing.T) {
	for _, b := range someFiles() {
		g, _, _ := load.Load(b, huge())
		again, steps, _ := load.Load(b, huge())
		if sample.ShareMemory(append(g.Next, again.Next...)...) {
			t.Errorf("the lists of %v share memory", b)
		}
		sample.FlipGraph(g)
		wantLoad(t, b, huge(), again, steps, api.OK)
	}
	for _, g := range sample.MixedGraphs() {
		for kind, want := range [][]byte{api.KindGaps: sample.GapsFile(g), api.KindBits: sample.BitsFile(g, api.How{K: 2})} {
			if want != nil {
				b, _ := load.Save(g, kind, api.How{K: 2})
				sample.Flip(b)
				wantSave(t, g, kind, api.How{K: 2}, want, api.OK)
			}
		}
	}
}

func TestP2EmptyListsCanBeNilOrNot(t *testing.T) {
	for _, h := range hows() {
		for _, next := range [][][]int{nil, {}} {
			wantBoth(t, api.Graph{Next: next}, h)
		}
		for _, l := range [][]int{nil, {}} {
			wantBoth(t, sample.Graph(l, []int{0}, l), h)
		}
	}
	for _, b := range [][]byte{nil, {}} {
		wantRefused(t, b)
	}
}

func TestP3EachCallIsByItself(t *testing.T) {
	g, h := sample.Graph([]int{1, 2}, nil, []int{0}), api.How{Back: 2, Least: 3, K: 2}
	for range 3 {
		wantBoth(t, g, h)
		wantSave(t, sample.Graph([]int{1}), api.KindGaps, h, nil, api.ErrRange)
		wantRefused(t, sample.GapsFile(sample.Graph([]int{1})))
		b, _ := load.Save(g, api.KindGaps, h)
		loaded, _, _ := load.Load(b, huge())
		sample.Flip(b)
		sample.FlipGraph(loaded)
		wantLoad(t, sample.GapsFile(g), api.Quota{Bytes: 100}, api.Graph{}, 0, api.ErrFull)
		wantBoth(t, g, h)
	}
}

func TestP4HoldsForMuch(t *testing.T) {
	const much = 1 << 22
	for kind := range 4 {
		wantSave(t, api.Graph{Next: make([][]int, much)}, kind, api.How{K: 1}, nil, api.ErrMany)
		wantSave(t, sample.Graph(sample.Steps(0, 1, much)), kind, api.How{K: 1}, nil, api.ErrRange)
		wantSave(t, sample.Graph(make([]int, much)), kind, api.How{K: 1}, nil, api.ErrState)
	}
	for _, start := range []string{"", "LW\x01", "LW\x02", "LW\x01\xff\xff"} {
		b := append([]byte(start), make([]byte, 1<<26)...)
		wantCost(t, b, api.Quota{}, api.ErrMany)
		wantLoad(t, b, huge(), api.Graph{}, 0, api.ErrMany)
		wantLoad(t, b, api.Quota{Bytes: 1<<26 - 1}, api.Graph{}, 0, api.ErrFull)
	}
}
