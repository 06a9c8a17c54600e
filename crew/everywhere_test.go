package crew_test

import (
	"slices"
	"testing"

	"lampwright/api"
	"lampwright/crew"
	"lampwright/graph"
	"lampwright/internal/sample"
)

// oddLists are lists of right and wrong graphs, and those that are as long as they may be, or longer.
func oddLists() [][]api.Graph {
	all := parted(sample.OddGraphs())
	return append(all, nil, []api.Graph{}, all[0][:1], all[0][:7], append(slices.Clone(all[1]), api.Graph{}), sample.OddGraphs(), make([]api.Graph, most))
}

func oddWorkers() []int { return append(wrongWorkers(), 1, 3, api.MaxWorkers) }

func TestP1ReturnsForAllArguments(t *testing.T) {
	for _, workers := range oddWorkers() {
		for _, l := range oddLists() {
			for _, h := range sample.OddHows()[:6] {
				packed, errs, err := crew.Write(l, h, workers)
				if len(packed) != len(errs) || err == api.OK && len(errs) != len(l) || err != api.OK && len(errs) != 0 {
					t.Errorf("Write: %v %v beside the error %d", packed, errs, err)
				}
				for i, err := range errs {
					if err != api.OK && !sample.SamePacked(packed[i], api.Packed{}) {
						t.Errorf("Write: %v beside the error %d", packed[i], err)
					}
				}
			}
			if many, err := crew.Arcs(l, workers); many < 0 || err != api.OK && many != 0 {
				t.Errorf("Arcs: %d beside the error %d", many, err)
			}
		}
		for _, g := range sample.OddGraphs() {
			wrong := graph.Check(g)
			if far, err := crew.Far(g, workers); err == api.OK && (wrong != api.OK || len(far) != len(g.Next)) || err != api.OK && len(far) != 0 {
				t.Errorf("Far: %v beside the error %d", far, err)
			}
		}
	}
}

// flipPacked changes all results of Write, and the memory behind their lengths.
func flipPacked(packed []api.Packed, errs []api.Errno) {
	for _, p := range packed {
		sample.Scribble(p.Bits)
	}
	packed = packed[:cap(packed)]
	for i := range packed {
		packed[i] = api.Packed{N: -1}
	}
	sample.Flip(errs)
}

// use calls each function, and flips what it returns. A result that shared memory with an argument would carry the changes into it.
func use(l []api.Graph, g api.Graph, h api.How, workers int) {
	packed, errs, _ := crew.Write(l, h, workers)
	flipPacked(packed, errs)
	far, _ := crew.Far(g, workers)
	sample.FlipGraph(api.Graph{Next: far})
	crew.Arcs(l, workers)
}

func TestP2ArgumentsStayAsTheyAre(t *testing.T) {
	for _, workers := range []int{0, 1, 2, api.MaxWorkers} {
		for i, l := range oddLists() {
			m := sample.AroundGraphs(l, 1)
			use(m.Graphs, api.Graph{}, api.How{Back: 2, Least: 3, K: 1}, workers)
			if m.Changed() {
				t.Errorf("list %d of graphs is changed", i)
			}
		}
		for _, g := range append(sample.OddGraphs(), sample.Graphs(2)...) {
			m := sample.AroundGraph(g, 1)
			use(nil, m.Graph, api.How{K: 1}, workers)
			if m.Changed() {
				t.Errorf("the graph %v is changed", g)
			}
		}
	}
}

func TestP2ResultsShareNoMemory(t *testing.T) {
	l := append(sample.GreatGraphs(), sample.Graphs(2)[5])
	same := slices.Repeat([]api.Graph{sample.Circle(12, 1, 2, 5)}, 12)
	for _, workers := range allWorkers() {
		for _, graphs := range [][]api.Graph{l, same} {
			packed, errs, _ := crew.Write(graphs, api.How{Back: 1, Least: 3, K: 3}, workers)
			_, again, _ := crew.Write(graphs, api.How{Back: 1, Least: 3, K: 3}, workers)
			var lists [][]byte
			for _, p := range packed {
				lists = append(lists, p.Bits.Bytes)
			}
			if sample.ShareMemory(lists...) || sample.ShareMemory(errs, again) {
				t.Errorf("what %d workers write shares memory", workers)
			}
		}
		for _, g := range []api.Graph{same[0], sample.Full(40, 0), sample.Circle(40, 0, 3)} {
			far, _ := crew.Far(g, workers)
			again, _ := crew.Far(g, workers)
			if sample.ShareMemory(slices.Concat(far, again, g.Next)...) {
				t.Errorf("the distances that %d workers find share memory", workers)
			}
		}
	}
}

func TestP2EmptyListsCanBeNilOrNot(t *testing.T) {
	h := api.How{K: 1}
	for _, l := range [][]api.Graph{nil, {}} {
		wantWrite(t, l, h, nil)
		wantNotWritten(t, l, h, 0, api.ErrRange)
		wantArcs(t, l, 1, 0, api.OK)
	}
	for _, next := range [][][]int{nil, {}} {
		g := api.Graph{Next: next}
		wantWrite(t, []api.Graph{g, g}, h, slices.Repeat([]written{{packed: api.Packed{How: h}}}, 2))
		wantFar(t, g, 2, nil, api.OK)
		wantArcs(t, []api.Graph{g, g}, 2, 0, api.OK)
	}
	for _, l := range [][]int{nil, {}} {
		g := sample.Graph(l, []int{0})
		wantWrite(t, []api.Graph{g}, h, []written{spelled(g, h)})
		wantFar(t, g, 2, [][]int{{0, -1}, {1, 0}}, api.OK)
		wantArcs(t, []api.Graph{g}, 2, 1, api.OK)
	}
}

func TestP3EachCallIsByItself(t *testing.T) {
	h := api.How{Back: 2, Least: 3, K: 2}
	l := []api.Graph{sample.Circle(12, 1, 2, 5, 6), sample.Graph([]int{1}), sample.Full(5, 2)}
	want := []written{spelled(l[0], h), {err: api.ErrRange}, spelled(l[2], h)}
	far := sample.AllFar(l[0])
	for range 3 {
		wantWrite(t, l, h, want)
		wantNotWritten(t, l, h, 0, api.ErrRange)
		wantFar(t, l[0], 3, far, api.OK)
		wantFar(t, l[1], 3, nil, api.ErrRange)
		wantArcs(t, l, 3, 58, api.OK)
		use(l, l[0], h, 4)
		use(l, l[1], api.How{}, 9)
	}
}

// Calls at the same time do not notice each other.
func TestP3CallsAtTheSameTime(t *testing.T) {
	l := sample.MixedGraphs()
	h := api.How{Back: 1, Least: 3, K: 1}
	var want []written
	for _, g := range l {
		want = append(want, spelled(g, h))
	}
	t.Run("all", func(t *testing.T) {
		for _, workers := range allWorkers() {
			t.Run("some", func(t *testing.T) {
				t.Parallel()
				wantWrite(t, l, h, want)
				for _, g := range l {
					wantFar(t, g, workers, sample.AllFar(g), api.OK)
				}
				wantArcs(t, l[:3], workers, 29, api.OK)
			})
		}
	})
}

func TestP4HoldsForMuch(t *testing.T) {
	const much = 1 << 22
	h := api.How{K: 1}
	wantNotWritten(t, make([]api.Graph, much), h, 1, api.ErrMany)
	wantNotWritten(t, make([]api.Graph, much), h, 0, api.ErrRange)
	wantArcs(t, make([]api.Graph, much), 1, 0, api.ErrMany)
	l := []api.Graph{{Next: make([][]int, much)}, sample.Graph(sample.Steps(0, 1, much)), sample.Graph(nil, make([]int, much))}
	errs := []api.Errno{api.ErrMany, api.ErrRange, api.ErrState}
	wantWrite(t, l, h, []written{{err: errs[0]}, {err: errs[1]}, {err: errs[2]}})
	wantArcs(t, l, 2, 0, api.OK)
	for i, g := range l {
		if far, err := crew.Far(g, 2); len(far) != 0 || err != errs[i] {
			t.Errorf("Far: %d, must be %d", err, errs[i])
		}
	}
}
