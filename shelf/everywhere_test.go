package shelf_test

import (
	"math"
	"strings"
	"testing"

	"lampwright/api"
	"lampwright/bits"
	"lampwright/internal/sample"
	"lampwright/shelf"
)

func oddNodes() []int { return []int{math.MinInt, -1, 0, 1, 2, nodes - 1, nodes, math.MaxInt} }

func TestP1BuildReturnsForAllArguments(t *testing.T) {
	for _, h := range sample.OddHows() {
		for _, g := range sample.OddGraphs() {
			s, err := shelf.Build(g, h)
			if bits.Check(s.Packed.Bits) != api.OK || err != api.OK && !sample.SameShelf(s, api.Shelf{}) {
				t.Errorf("Build: %v beside the error %d", s, err)
			}
			if wrong := shelf.Check(s); err == api.OK && wrong != api.OK {
				t.Errorf("what is built of %v has the error %d", g, wrong)
			}
		}
	}
}

// oddShelves are right and wrong shelves.
func oddShelves() []api.Shelf {
	all := []api.Shelf{{}}
	for _, h := range sample.OddHows() {
		for _, b := range sample.OddBits() {
			for _, n := range []int{math.MinInt, -1, 0, 1, nodes, nodes + 1, math.MaxInt} {
				all = append(all, api.Shelf{Packed: api.Packed{N: n, How: h, Bits: b}, Starts: api.Fano{N: n, Low: b, High: b}})
			}
		}
	}
	for _, s := range changeable() {
		for _, n := range []int{math.MinInt, -1, 0, s.Starts.N, math.MaxInt} {
			f := s.Starts
			f.N, f.Width = n, 64-n
			all = append(all, with(s, f))
		}
		for _, b := range sample.OddBits() {
			f := s.Starts
			f.Low, f.High = b, b
			all = append(all, with(s, f))
		}
		all = append(all, s)
	}
	return all
}

func TestP1ReturnsForAllShelves(t *testing.T) {
	for _, s := range oddShelves() {
		wrong := shelf.Check(s)
		for _, node := range oddNodes() {
			if l, decoded, err := shelf.List(s, node); err != api.OK && (len(l) != 0 || decoded != 0) || err == api.OK && (decoded < 1 || wrong != api.OK) {
				t.Errorf("List: %v %d beside the error %d", l, decoded, err)
			}
			for _, other := range []int{-1, 0, math.MaxInt} {
				if leads, err := shelf.Leads(s, node, other); leads && err != api.OK || err == api.OK && wrong != api.OK {
					t.Errorf("Leads: %t beside the error %d", leads, err)
				}
			}
		}
	}
}

// scribble changes all bits of a shelf that is built.
func scribble(s api.Shelf) {
	sample.Scribble(s.Packed.Bits)
	sample.Scribble(s.Starts.Low)
	sample.Scribble(s.Starts.High)
}

func TestP2ArgumentsStayAsTheyAre(t *testing.T) {
	for _, h := range sample.OddHows() {
		for _, g := range sample.OddGraphs() {
			m := sample.AroundGraph(g, 1)
			s, _ := shelf.Build(m.Graph, h)
			scribble(s)
			if m.Changed() {
				t.Errorf("the graph %v is changed", g)
			}
		}
	}
	for _, s := range changeable() {
		guards := []sample.Guard{sample.Guarded(text(s.Packed.Bits)), sample.Guarded(text(s.Starts.Low)), sample.Guarded(text(s.Starts.High))}
		s.Packed.Bits, s.Starts.Low, s.Starts.High = guards[0].Bits, guards[1].Bits, guards[2].Bits
		other := s
		other.Starts.N++
		for _, s := range []api.Shelf{s, other} {
			shelf.Check(s)
			for node := -1; node < 9; node++ {
				l, _, _ := shelf.List(s, node)
				sample.Flip(l)
				shelf.Leads(s, node, 0)
			}
		}
		for i, guard := range guards {
			if guard.Changed() {
				t.Errorf("the bits %d of %v are changed", i, s)
			}
		}
	}
}

// text spells bits.
func text(b api.Bits) string {
	var all strings.Builder
	for _, n := range b.Bytes {
		all.WriteString(sample.Binary(uint64(n), 8))
	}
	return all.String()[:b.Len]
}

func TestP2ResultsShareNoMemory(t *testing.T) {
	for _, g := range append(sample.MixedGraphs(), sample.Full(24, 24)) {
		for _, h := range hows() {
			want := sample.Shelf(g, h)
			for i := range 3 {
				s, _ := shelf.Build(g, h)
				kept := want
				for j, b := range []struct{ own, kept *api.Bits }{{&s.Packed.Bits, &kept.Packed.Bits}, {&s.Starts.Low, &kept.Starts.Low}, {&s.Starts.High, &kept.Starts.High}} {
					if i == j {
						sample.Scribble(*b.own)
						*b.own, *b.kept = api.Bits{}, api.Bits{}
					}
				}
				if !sample.SameShelf(s, kept) {
					t.Errorf("the bits of what is built of %v share memory", g)
				}
			}
			lists := [][]int{}
			for node := range min(len(g.Next), 9) {
				l, _, _ := shelf.List(want, node)
				again, _, _ := shelf.List(want, node)
				lists = append(lists, l, again)
			}
			if sample.ShareMemory(append(lists, g.Next...)...) {
				t.Errorf("the lists of %v share memory", g)
			}
		}
	}
}

func TestP2EmptyListsCanBeNilOrNot(t *testing.T) {
	for _, h := range hows() {
		for _, next := range [][][]int{nil, {}} {
			wantBuilt(t, api.Graph{Next: next}, h)
		}
		for _, none := range [][]byte{nil, {}} {
			s := sample.Shelf(api.Graph{}, h)
			s.Packed.Bits.Bytes, s.Starts.Low.Bytes = none, none
			wantCheck(t, s, api.OK)
			wantList(t, s, 0, nil, 0, api.ErrRange)
			s.Starts.High = api.Bits{Bytes: none}
			wantRefused(t, s, api.ErrState)
		}
		for _, l := range [][]int{nil, {}} {
			g := sample.Graph(l, []int{0}, l)
			wantBuilt(t, g, h)
			wantFound(t, g, h, all(g))
		}
	}
}

func TestP3EachCallIsByItself(t *testing.T) {
	h := api.How{Back: 2, Least: 3, K: 2}
	g := sample.Graph([]int{0, 1}, []int{0, 1}, []int{0, 1, 2})
	right := sample.Shelf(g, h)
	wrong := with(right, sample.Fano([]int{0}, 5))
	for range 3 {
		wantBuilt(t, g, h)
		s, _ := shelf.Build(g, h)
		scribble(s)
		wantNotBuilt(t, g, api.How{}, api.ErrRange)
		wantRefused(t, wrong, api.ErrState)
		wantFound(t, g, h, all(g))
		l, _, _ := shelf.List(right, 2)
		sample.Flip(l)
		wantList(t, right, 3, nil, 0, api.ErrRange)
		wantFound(t, g, h, all(g))
	}
}

func TestP4HoldsForMuch(t *testing.T) {
	h := api.How{Back: 7, Least: 3, K: 3}
	wantNotBuilt(t, api.Graph{Next: make([][]int, 1<<22)}, h, api.ErrMany)
	wantNotBuilt(t, sample.Graph(sample.Steps(0, 1, 1<<22)), h, api.ErrRange)
	wantNotBuilt(t, sample.Graph(make([]int, 1<<22)), h, api.ErrState)
	much := make([]byte, 1<<26)
	right := sample.Shelf(sample.Graph([]int{0}, nil), h)
	for _, b := range []api.Bits{{Len: api.MaxLen, Bytes: much}, {Len: 1 << 29, Bytes: much}, {Bytes: much}} {
		wrong := right
		wrong.Packed.Bits = b
		err := api.ErrForm
		if b.Len > api.MaxLen {
			err = api.ErrRange
		}
		for _, f := range []api.Fano{right.Starts, {N: 2, Low: b, High: right.Starts.High}, {N: 2, Low: right.Starts.Low, High: b}} {
			wantMuchRefused(t, with(wrong, f), err)
		}
		f := right.Starts
		f.Low = b
		wantMuchRefused(t, with(right, f), api.ErrState)
		f = right.Starts
		f.High = b
		wantMuchRefused(t, with(right, f), api.ErrState)
	}
}

// wantMuchRefused is like wantRefused, but does not write what is wrong, which is too long.
func wantMuchRefused(t *testing.T, s api.Shelf, err api.Errno) {
	t.Helper()
	if got := shelf.Check(s); got != err {
		t.Errorf("Check of many bytes: %d, must be %d", got, err)
	}
	if l, decoded, got := shelf.List(s, 0); len(l) != 0 || decoded != 0 || got != err {
		t.Errorf("List of many bytes: %d %d %d, must be %d", len(l), decoded, got, err)
	}
	if leads, got := shelf.Leads(s, 0, 0); leads || got != err {
		t.Errorf("Leads of many bytes: %t %d, must be %d", leads, got, err)
	}
}
