package pack_test

import (
	"math"
	"testing"

	"lampwright/api"
	"lampwright/bits"
	"lampwright/internal/sample"
	"lampwright/pack"
)

func TestP1WriteAndToldReturnForAllArguments(t *testing.T) {
	for _, h := range sample.OddHows() {
		for _, g := range sample.OddGraphs() {
			p, err := pack.Write(g, h)
			if bits.Check(p.Bits) != api.OK || err != api.OK && !sample.SamePacked(p, api.Packed{}) {
				t.Errorf("Write: %v beside the error %d", p, err)
			}
			backs, starts, errTold := pack.Told(g, h)
			if errTold != err || err != api.OK && len(backs)+len(starts) != 0 {
				t.Errorf("Told: %v %v beside the error %d", backs, starts, errTold)
			}
		}
	}
}

func TestP1ReadReturnsForAllArguments(t *testing.T) {
	for _, h := range sample.OddHows() {
		for _, b := range sample.OddBits() {
			for _, n := range []int{math.MinInt, -1, 0, 1, 2, nodes, nodes + 1, math.MaxInt} {
				g, err := pack.Read(api.Packed{N: n, How: h, Bits: b})
				if err == api.OK && len(g.Next) != n || err != api.OK && len(g.Next) != 0 {
					t.Errorf("Read: %v beside the error %d", g, err)
				}
			}
		}
	}
}

// use calls each function, and flips what it returns. A result that shared memory with an argument would carry the changes into it.
func use(g api.Graph, p api.Packed) {
	written, _ := pack.Write(g, p.How)
	sample.Scribble(written.Bits)
	backs, starts, _ := pack.Told(g, p.How)
	sample.Flip(backs)
	sample.Flip(starts)
	read, _ := pack.Read(p)
	sample.FlipGraph(read)
}

func TestP2ArgumentsStayAsTheyAre(t *testing.T) {
	for _, h := range sample.OddHows() {
		for _, g := range sample.OddGraphs() {
			m := sample.AroundGraph(g, 1)
			use(m.Graph, api.Packed{How: h})
			if m.Changed() {
				t.Errorf("the graph %v is changed", g)
			}
		}
		for _, g := range sample.MixedGraphs() {
			text, _, _ := sample.Pack(g, api.How{Back: 7, Least: 2, K: 1})
			guard := sample.Guarded(text)
			for _, n := range []int{-1, 0, len(g.Next), nodes} {
				use(api.Graph{}, api.Packed{N: n, How: h, Bits: guard.Bits})
				use(api.Graph{}, api.Packed{N: n, How: api.How{Back: 7, Least: 2, K: 1}, Bits: guard.Bits})
			}
			if guard.Changed() {
				t.Errorf("the bits of %v are changed", g)
			}
		}
	}
}

func TestP2ResultsShareNoMemory(t *testing.T) {
	for _, g := range append(sample.MixedGraphs(), sample.Full(24, 24)) {
		for _, h := range hows() {
			p, _ := pack.Write(g, h)
			read, _ := pack.Read(p)
			if sample.ShareMemory(append(read.Next, g.Next...)...) {
				t.Errorf("the lists of %v share memory", g)
			}
			if backs, starts, _ := pack.Told(g, h); sample.ShareMemory(backs, starts) {
				t.Errorf("what is told of %v shares memory", g)
			}
		}
	}
}

func TestP2EmptyListsCanBeNilOrNot(t *testing.T) {
	for _, h := range hows() {
		for _, next := range [][][]int{nil, {}} {
			wantWritten(t, api.Graph{Next: next}, h, "", nil, nil)
		}
		for _, b := range []api.Bits{{}, {Bytes: []byte{}}} {
			wantRead(t, api.Packed{How: h, Bits: b}, api.Graph{}, api.OK)
			wantRead(t, api.Packed{N: 1, How: h, Bits: b}, api.Graph{}, api.ErrForm)
		}
		for _, l := range [][]int{nil, {}} {
			wantBoth(t, sample.Graph(l, []int{0}, l), h)
		}
	}
}

func TestP3EachCallIsByItself(t *testing.T) {
	h := api.How{Back: 2, Least: 3, K: 2}
	g := sample.Circle(12, 1, 2, 5, 6)
	text, _, _ := sample.Pack(g, h)
	p := packed(12, h, text)
	for range 3 {
		wantBoth(t, g, h)
		use(g, p)
		wantNotWritten(t, g, api.How{}, api.ErrRange)
		wantRead(t, packed(13, h, text), api.Graph{}, api.ErrForm)
		wantRead(t, p, g, api.OK)
	}
}

func TestP4HoldsForMuch(t *testing.T) {
	const much = 1 << 22
	h := api.How{Back: 7, Least: 3, K: 3}
	wantNotWritten(t, api.Graph{Next: make([][]int, much)}, h, api.ErrMany)
	wantNotWritten(t, sample.Graph(sample.Steps(0, 1, much)), h, api.ErrRange)
	wantNotWritten(t, sample.Graph(make([]int, much)), h, api.ErrState)
	wantRead(t, api.Packed{N: nodes, How: h, Bits: api.Bits{Len: api.MaxLen, Bytes: make([]byte, 1<<26)}}, api.Graph{}, api.ErrForm)
	wantRead(t, api.Packed{N: nodes, How: h, Bits: api.Bits{Len: 1 << 29, Bytes: make([]byte, 1<<26)}}, api.Graph{}, api.ErrRange)
}
