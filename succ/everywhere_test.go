package succ_test

import (
	"math"
	"testing"

	"lampwright/api"
	"lampwright/bits"
	"lampwright/internal/sample"
	"lampwright/succ"
)

func TestP1WriteReturnsForAllArguments(t *testing.T) {
	for _, h := range sample.OddHows() {
		for _, l := range sample.OddLists() {
			for _, from := range [][]int{nil, {3, 9, 11}, {3, 3}, sample.Steps(0, 2, most), sample.Steps(0, 2, most+1), {math.MaxInt, math.MinInt}} {
				for _, node := range []int{math.MinInt, -1, 0, 5, top, top + 1, math.MaxInt} {
					b, err := succ.Write(node, l, from, h)
					if bits.Check(b) != api.OK || (err == api.OK) != (b.Len > 0) {
						t.Errorf("Write: %v beside the error %d", b, err)
					}
					b, err = succ.Write(node, from, l, h)
					if bits.Check(b) != api.OK || (err == api.OK) != (b.Len > 0) {
						t.Errorf("Write: %v beside the error %d", b, err)
					}
				}
			}
		}
	}
}

func TestP1ReadReturnsForAllArguments(t *testing.T) {
	for _, h := range sample.OddHows() {
		for _, b := range sample.OddBits() {
			for _, at := range []int{math.MinInt, -1, 0, 1, 50, 100, api.MaxLen, math.MaxInt} {
				for _, node := range []int{math.MinInt, -1, 0, 5, top, top + 1, math.MaxInt} {
					for _, from := range [][]int{nil, {3, 9, 11}, {3, 3}, sample.Steps(0, 2, most), {math.MaxInt, math.MinInt}} {
						l, after, err := succ.Read(b, at, node, from, h)
						if err != api.OK && (len(l) != 0 || after != 0) || err == api.OK && after <= at {
							t.Errorf("Read: %v %d beside the error %d", l, after, err)
						}
					}
				}
			}
		}
	}
}

// A result that shared memory with an argument would carry the changes into it.
func TestP2ArgumentsStayAsTheyAre(t *testing.T) {
	for _, h := range sample.OddHows() {
		for _, list := range sample.OddLists() {
			from, l := sample.Around(list, 1), sample.Around(list, 0)
			for _, other := range [][]int{nil, {3, 9, 11}, {2, 3, 4, 5, 9, 20}} {
				b, _ := succ.Write(7, l.List, other, h)
				sample.Scribble(b)
				b, _ = succ.Write(7, other, from.List, h)
				read, _, _ := succ.Read(b, 0, 7, from.List, h)
				sample.Flip(read)
				sample.Scribble(b)
			}
			if from.Changed() || l.Changed() {
				t.Errorf("the list %v is changed", list)
			}
		}
		for _, c := range mixedLists() {
			g := sample.Guarded(sample.Succ(7, c[0], c[1], api.How{Back: h.Back, Least: max(h.Least, 0), K: 3}))
			for at := range g.Bits.Len + 1 {
				l, _, _ := succ.Read(g.Bits, at, 7, c[1], h)
				sample.Flip(l)
			}
			if g.Changed() {
				t.Errorf("%d bits are changed", g.Bits.Len)
			}
		}
	}
}

func TestP2EmptyListsCanBeNilOrNot(t *testing.T) {
	for _, h := range sample.Hows() {
		for _, from := range [][]int{nil, {}} {
			for _, l := range [][]int{nil, {}} {
				wantWrite(t, 5, l, from, h, "1", api.OK)
			}
			wantWrite(t, 5, []int{5}, from, h, sample.Succ(5, []int{5}, nil, h), api.OK)
			for _, b := range []api.Bits{{}, {Bytes: []byte{}}} {
				wantRead(t, b, 0, 5, from, h, nil, 0, api.ErrForm)
			}
			wantRead(t, sample.Bits("1"), 0, 5, from, h, nil, 1, api.OK)
		}
	}
}

func TestP3EachCallIsByItself(t *testing.T) {
	h, l, from := api.How{Back: 1, Least: 3, K: 3}, []int{2, 3, 4, 5, 9, 20}, []int{3, 9, 11}
	text := sample.Succ(7, l, from, h)
	for range 3 {
		wantWrite(t, 7, l, from, h, text, api.OK)
		wantRead(t, sample.Bits(text), 0, 7, from, h, l, len(text), api.OK)
		b, _ := succ.Write(7, l, from, h)
		read, _, _ := succ.Read(b, 0, 7, from, h)
		sample.Scribble(b)
		sample.Flip(read)
		wantRead(t, sample.Bits(text[1:]), 0, 7, from, h, nil, 0, api.ErrForm)
		wantWrite(t, -1, l, from, h, "", api.ErrRange)
	}
}

func TestP4HoldsForMuch(t *testing.T) {
	h, long := api.How{Back: 1, Least: 3, K: 3}, sample.Steps(0, 1, 1<<22)
	for _, c := range [][2][]int{{long, nil}, {nil, long}, {long, long}} {
		if b, err := succ.Write(7, c[0], c[1], h); b.Len != 0 || err != api.ErrMany {
			t.Errorf("Write of %d elements by %d: %d bits, %d", len(c[0]), len(c[1]), b.Len, err)
		}
	}
	wantRead(t, sample.Bits("1"), 0, 7, long, h, nil, 0, api.ErrMany)
	wantRead(t, api.Bits{Len: api.MaxLen, Bytes: make([]byte, 1<<26)}, 0, 7, nil, h, nil, 0, api.ErrForm)
}
