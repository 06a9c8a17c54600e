package crew_test

import (
	"math"
	"slices"
	"testing"
	"testing/synctest"

	"lampwright/api"
	"lampwright/crew"
	"lampwright/graph"
	"lampwright/internal/sample"
	"lampwright/pack"
	"lampwright/walk"
)

const nodes, most = api.MaxNodes, api.MaxGraphs

// allWorkers are all numbers of workers that there can be.
func allWorkers() []int { return sample.Steps(1, 1, api.MaxWorkers) }

// wrongWorkers are numbers of workers that there cannot be.
func wrongWorkers() []int {
	return []int{math.MinInt, -api.MaxWorkers, -1, 0, api.MaxWorkers + 1, api.MaxWorkers + 2, 1 << 32, math.MaxInt}
}

// written is what is returned for one graph.
type written struct {
	packed api.Packed
	err    api.Errno
}

// wantWrite fails unless each number of workers writes this.
func wantWrite(t *testing.T, l []api.Graph, h api.How, want []written) {
	t.Helper()
	for _, workers := range allWorkers() {
		packed, errs, err := crew.Write(l, h, workers)
		if err != api.OK || len(packed) != len(want) || len(errs) != len(want) {
			t.Errorf("Write by %d workers: %d and %d results, error %d, must be %d", workers, len(packed), len(errs), err, len(want))
			continue
		}
		for i, w := range want {
			if !sample.SamePacked(packed[i], w.packed) || errs[i] != w.err {
				t.Errorf("Write by %d workers: graph %d is %v %d, must be %v %d", workers, i, packed[i], errs[i], w.packed, w.err)
			}
		}
	}
}

func wantNotWritten(t *testing.T, l []api.Graph, h api.How, workers int, err api.Errno) {
	t.Helper()
	if packed, errs, got := crew.Write(l, h, workers); len(packed) != 0 || len(errs) != 0 || got != err {
		t.Errorf("Write of %d graphs by %d workers: %v %v %d, must be %d", len(l), workers, packed, errs, got, err)
	}
}

func wantFar(t *testing.T, g api.Graph, workers int, far [][]int, err api.Errno) {
	t.Helper()
	if got, gotErr := crew.Far(g, workers); !slices.EqualFunc(got, far, slices.Equal) || gotErr != err {
		t.Errorf("Far in %v by %d workers: %v %d, must be %v %d", g, workers, got, gotErr, far, err)
	}
}

func wantArcs(t *testing.T, l []api.Graph, workers, many int, err api.Errno) {
	t.Helper()
	if got, gotErr := crew.Arcs(l, workers); got != many || gotErr != err {
		t.Errorf("Arcs of %d graphs by %d workers: %d %d, must be %d %d", len(l), workers, got, gotErr, many, err)
	}
}

// spelled spells what is written for a graph that is right, in a way of encoding that is.
func spelled(g api.Graph, h api.How) written {
	text, _, _ := sample.Pack(g, h)
	return written{packed: api.Packed{N: len(g.Next), How: h, Bits: sample.Bits(text)}}
}

func TestW1ByHand(t *testing.T) {
	h := api.How{K: 1}
	loop := written{packed: api.Packed{N: 1, How: h, Bits: sample.Bits("010" + "1")}}
	alone := written{packed: api.Packed{N: 1, How: h, Bits: sample.Bits("1")}}
	wantWrite(t, nil, h, nil)
	wantWrite(t, []api.Graph{{}}, h, []written{{packed: api.Packed{How: h}}})
	wantWrite(t, []api.Graph{sample.Graph([]int{0})}, h, []written{loop})
	// The results are in the order of the graphs, and one that is wrong leaves the others as they are.
	l := []api.Graph{sample.Graph(nil), sample.Graph([]int{1}), sample.Graph([]int{0}), sample.Full(nodes+1, 0), sample.Graph([]int{0, 0}), sample.Graph(nil)}
	wantWrite(t, l, h, []written{alone, {err: api.ErrRange}, loop, {err: api.ErrMany}, {err: api.ErrState}, alone})
	// The error of a graph comes before that of the way of encoding.
	wantWrite(t, l[:5], api.How{Back: 8, K: 1}, []written{{err: api.ErrRange}, {err: api.ErrRange}, {err: api.ErrRange}, {err: api.ErrMany}, {err: api.ErrState}})
}

// The graphs are as many as there may be, and those that need more bits than there may be are among them.
func TestW1Edges(t *testing.T) {
	h := api.How{K: 16}
	var l []api.Graph
	var want []written
	for i := range most {
		w := written{err: api.ErrFull}
		if i >= 15 {
			w = spelled(sample.Long(i-6), h)
		}
		l, want = append(l, sample.Long(i-6)), append(want, w)
	}
	if want[15].packed.Bits.Len != api.MaxLen {
		t.Fatalf("the longest graph needs %d bits", want[15].packed.Bits.Len)
	}
	wantWrite(t, l, h, want)
	slices.Reverse(l)
	slices.Reverse(want)
	wantWrite(t, l, h, want)
}

// parted cuts a list of graphs into as long parts as there may be.
func parted(l []api.Graph) [][]api.Graph { return slices.Collect(slices.Chunk(l, most)) }

// differentGraphs are small and great ones, one after the other.
func differentGraphs() []api.Graph {
	great := sample.GreatGraphs()
	all := slices.Concat(sample.Graphs(0), sample.Graphs(1), sample.Graphs(2))
	for i, g := range great {
		all = append(all, g, sample.Graphs(3)[20*i])
	}
	return all
}

func TestW1WritesWhatIsSpelled(t *testing.T) {
	for _, h := range []api.How{{K: 1}, {Back: 1, Least: 3, K: 3}, {Back: api.MaxBack, Least: 2, K: 2}} {
		for _, l := range parted(differentGraphs()) {
			var want []written
			for _, g := range l {
				want = append(want, spelled(g, h))
			}
			wantWrite(t, l, h, want)
		}
	}
}

func TestW1WritesWhatPackWrites(t *testing.T) {
	for _, h := range sample.OddHows() {
		for _, l := range parted(sample.OddGraphs()) {
			want := make([]written, len(l))
			for i, g := range l {
				want[i].packed, want[i].err = pack.Write(g, h)
			}
			wantWrite(t, l, h, want)
		}
	}
}

func TestW1Errors(t *testing.T) {
	h := api.How{K: 1}
	for many := range most + 3 {
		l := make([]api.Graph, many)
		for _, workers := range wrongWorkers() {
			wantNotWritten(t, l, h, workers, api.ErrRange)
			wantNotWritten(t, l, api.How{}, workers, api.ErrRange)
		}
		for _, workers := range allWorkers() {
			if many > most {
				wantNotWritten(t, l, h, workers, api.ErrMany)
				wantNotWritten(t, l, api.How{}, workers, api.ErrMany)
			}
		}
		if many <= most {
			wantWrite(t, l, h, slices.Repeat([]written{{packed: api.Packed{How: h}}}, many))
			wantWrite(t, l, api.How{}, slices.Repeat([]written{{err: api.ErrRange}}, many))
		}
	}
}

func TestW2FarByHand(t *testing.T) {
	for _, workers := range allWorkers() {
		wantFar(t, api.Graph{}, workers, nil, api.OK)
		wantFar(t, sample.Graph(nil), workers, [][]int{{0}}, api.OK)
		wantFar(t, sample.Graph([]int{0}), workers, [][]int{{0}}, api.OK)
		wantFar(t, sample.Graph([]int{1}, []int{2}, nil), workers, [][]int{{0, 1, 2}, {-1, 0, 1}, {-1, -1, 0}}, api.OK)
		wantFar(t, sample.Graph([]int{3}, []int{0}, nil, []int{0, 1}), workers, [][]int{{0, 2, -1, 1}, {1, 0, -1, 2}, {-1, -1, 0, -1}, {1, 1, -1, 0}}, api.OK)
	}
}

func TestW2Far(t *testing.T) {
	for i, g := range slices.Concat(sample.Graphs(3), sample.GreatGraphs(), sample.ScatteredGraphs()) {
		far := sample.AllFar(g)
		for node := range g.Next {
			if l, _ := walk.Far(g, node); !slices.Equal(l, far[node]) {
				t.Fatalf("walk.Far from %d in %v is %v", node, g, l)
			}
		}
		wantFar(t, g, 1+i%api.MaxWorkers, far, api.OK)
		wantFar(t, g, 1+(i+3)%api.MaxWorkers, far, api.OK)
	}
	for _, g := range append(sample.EdgeGraphs(), sample.Line(nodes)) {
		for _, workers := range allWorkers() {
			wantFar(t, g, workers, sample.AllFar(g), api.OK)
		}
	}
}

func TestW2FarErrors(t *testing.T) {
	for _, w := range sample.WrongGraphs() {
		// The error of the graph comes before that of the workers.
		for _, workers := range append(wrongWorkers(), 1, 2, api.MaxWorkers) {
			wantFar(t, w.Graph, workers, nil, w.Err)
		}
	}
	for _, g := range sample.GreatGraphs() {
		for _, workers := range wrongWorkers() {
			wantFar(t, g, workers, nil, api.ErrRange)
		}
	}
}

func TestW2ArcsByHand(t *testing.T) {
	full, one := sample.Full(nodes, 6), sample.Graph([]int{1}, nil)
	more := sample.Full(nodes, 6)
	more.Next[nodes-1] = []int{0}
	for _, workers := range allWorkers() {
		wantArcs(t, nil, workers, 0, api.OK)
		wantArcs(t, []api.Graph{{}}, workers, 0, api.OK)
		wantArcs(t, []api.Graph{one}, workers, 1, api.OK)
		wantArcs(t, []api.Graph{one, {}, one, full, sample.Full(3, 2)}, workers, 608, api.OK)
		// The same graph is counted as often as it is there.
		wantArcs(t, slices.Repeat([]api.Graph{full}, most), workers, most*api.MaxArcs, api.OK)
		// None of the arcs of a graph that is wrong is counted.
		wantArcs(t, []api.Graph{more}, workers, 0, api.OK)
		wantArcs(t, []api.Graph{one, more, sample.Graph([]int{0, 1}), sample.Graph([]int{1, 0}, nil), sample.Circle(nodes+1, 1), one}, workers, 2, api.OK)
	}
}

func TestW2Arcs(t *testing.T) {
	for _, l := range append(parted(sample.OddGraphs()), parted(slices.Concat(sample.Graphs(3), sample.ScatteredGraphs()))...) {
		many := 0
		for _, g := range l {
			if graph.Check(g) == api.OK {
				many += len(slices.Concat(g.Next...))
			}
		}
		for _, workers := range allWorkers() {
			wantArcs(t, l, workers, many, api.OK)
		}
	}
}

func TestW2ArcsErrors(t *testing.T) {
	for many := range most + 3 {
		l := slices.Repeat([]api.Graph{sample.Graph([]int{0})}, many)
		for _, workers := range wrongWorkers() {
			wantArcs(t, l, workers, 0, api.ErrRange)
		}
		for _, workers := range allWorkers() {
			if many > most {
				wantArcs(t, l, workers, 0, api.ErrMany)
			} else {
				wantArcs(t, l, workers, many, api.OK)
			}
		}
	}
}

// A worker that was left would wait for ever, which makes the test fail.
func TestW3AllWorkersHaveEnded(t *testing.T) {
	l := sample.OddGraphs()[:most]
	for _, workers := range slices.Concat(allWorkers(), []int{0, api.MaxWorkers + 1}) {
		synctest.Test(t, func(t *testing.T) {
			for _, some := range [][]api.Graph{nil, l[:1], l[:workers/2], l, make([]api.Graph, most+1)} {
				crew.Write(some, api.How{Back: 1, K: 2}, workers)
				crew.Arcs(some, workers)
			}
			for _, g := range l {
				crew.Far(g, workers)
			}
		})
	}
}

// What is returned stays as it is: nothing of it is still to come.
func TestW3ResultsAreWhole(t *testing.T) {
	g, h := sample.Full(nodes, 6), api.How{Back: api.MaxBack, Least: 2, K: 2}
	far, l := sample.AllFar(g), slices.Repeat([]api.Graph{g}, api.MaxWorkers)
	want := slices.Repeat([]written{spelled(g, h)}, len(l))
	for range 20 {
		wantWrite(t, l, h, want)
		for _, workers := range allWorkers() {
			wantFar(t, g, workers, far, api.OK)
			wantArcs(t, l, workers, len(l)*api.MaxArcs, api.OK)
		}
	}
}
