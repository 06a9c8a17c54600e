package gaps_test

import (
	"math"
	"testing"

	"lampwright/api"
	"lampwright/bits"
	"lampwright/gaps"
	"lampwright/internal/sample"
)

// oddGaps are right and wrong lists of gaps.
func oddGaps() [][]uint64 {
	return append(longGaps(), nil, []uint64{}, []uint64{9, 1, 0, 14}, []uint64{1}, []uint64{math.MaxUint64, 0}, []uint64{0, math.MaxUint64}, make([]uint64, api.MaxList))
}

// oddNumbers are right and wrong positions, nodes, and numbers of elements.
func oddNumbers() []int {
	return []int{math.MinInt, -1, 0, 1, 16, 17, api.MaxList, api.MaxList + 1, api.MaxLen, top, top + 1, math.MaxInt}
}

func TestP1ReturnsForAllArguments(t *testing.T) {
	for _, at := range oddNumbers() {
		for _, l := range sample.OddLists() {
			if g, err := gaps.Gaps(l, at); err != api.OK && len(g) != 0 || err == api.OK && len(g) != len(l) {
				t.Errorf("Gaps: %v %d", g, err)
			}
			for _, k := range oddNumbers() {
				b, err := gaps.Write(l, at, k)
				if bits.Check(b) != api.OK || err != api.OK && b.Len != 0 {
					t.Errorf("Write: %v beside the error %d", b, err)
				}
			}
		}
		for _, g := range oddGaps() {
			if l, err := gaps.Back(g, at); err != api.OK && len(l) != 0 || err == api.OK && len(l) != len(g) {
				t.Errorf("Back: %v %d", l, err)
			}
		}
	}
}

func TestP1ReadReturnsForAllArguments(t *testing.T) {
	for _, b := range sample.OddBits() {
		for _, from := range oddNumbers() {
			for _, at := range oddNumbers() {
				for _, k := range []int{-1, 0, 1, 5, 16, 17} {
					for _, many := range oddNumbers() {
						l, after, err := gaps.Read(b, from, at, k, many)
						if err != api.OK && (len(l) != 0 || after != 0) || err == api.OK && (len(l) != many || after < from) {
							t.Errorf("Read: %v %d %d", l, after, err)
						}
					}
				}
			}
		}
	}
}

// A result that shared memory with an argument would carry the changes into it.
func TestP2ArgumentsStayAsTheyAre(t *testing.T) {
	for _, list := range sample.OddLists() {
		m := sample.Around(list, 1)
		gaps.Check(m.List)
		g, _ := gaps.Gaps(m.List, 5)
		sample.Flip(g)
		b, _ := gaps.Write(m.List, 5, 2)
		sample.Scribble(b)
		if m.Changed() {
			t.Errorf("the list %v is changed", list)
		}
	}
	for _, list := range oddGaps() {
		m := sample.Around(list, 1)
		l, _ := gaps.Back(m.List, 5)
		sample.Flip(l)
		if m.Changed() {
			t.Errorf("the gaps %v are changed", list)
		}
	}
	for _, text := range []string{"", "1", "0001010" + "010" + "1" + "0001111", sample.Mixed(200)} {
		g := sample.Guarded(text)
		for from := range len(text) + 1 {
			for many := range 6 {
				l, _, _ := gaps.Read(g.Bits, from, 7, 1, many)
				sample.Flip(l)
			}
		}
		if g.Changed() {
			t.Errorf("%d bits are changed", len(text))
		}
	}
}

func TestP2EmptyListsCanBeNilOrNot(t *testing.T) {
	for _, l := range [][]int{nil, {}} {
		wantGaps(t, l, 5, nil, api.OK)
		wantWrite(t, l, 5, 1, "", api.OK)
	}
	for _, g := range [][]uint64{nil, {}} {
		wantBack(t, g, 5, nil, api.OK)
	}
	for _, b := range []api.Bits{{}, {Bytes: []byte{}}} {
		wantRead(t, b, 0, 5, 1, 0, nil, 0, api.OK)
		wantRead(t, b, 0, 5, 1, 1, nil, 0, api.ErrShort)
	}
}

func TestP3EachCallIsByItself(t *testing.T) {
	list, distance, text := []int{2, 4, 5, 20}, []uint64{9, 1, 0, 14}, "011010"+"110"+"10"+"011111"
	for range 3 {
		g, _ := gaps.Gaps(list, 7)
		l, _ := gaps.Back(distance, 7)
		b, _ := gaps.Write(list, 7, 2)
		read, _, _ := gaps.Read(sample.Bits(text), 0, 7, 2, 4)
		sample.Flip(g)
		sample.Flip(l)
		sample.Scribble(b)
		sample.Flip(read)
		wantGaps(t, list, 7, distance, api.OK)
		wantBack(t, distance, 7, list, api.OK)
		wantWrite(t, list, 7, 2, text, api.OK)
		wantRead(t, sample.Bits(text), 0, 7, 2, 4, list, len(text), api.OK)
		wantBack(t, distance, -1, nil, api.ErrRange)
	}
}

func TestP4HoldsForMuch(t *testing.T) {
	l := sample.Steps(0, 1, 1<<22)
	if err := gaps.Check(l); err != api.ErrMany {
		t.Errorf("Check of a long list: %d", err)
	}
	if g, err := gaps.Gaps(l, 0); len(g) != 0 || err != api.ErrMany {
		t.Errorf("Gaps of a long list: %d %d", len(g), err)
	}
	if b, err := gaps.Write(l, 0, 1); b.Len != 0 || err != api.ErrMany {
		t.Errorf("Write of a long list: %d %d", b.Len, err)
	}
	if back, err := gaps.Back(make([]uint64, 1<<22), 0); len(back) != 0 || err != api.ErrMany {
		t.Errorf("Back of a long list: %d %d", len(back), err)
	}
	wantRead(t, api.Bits{Len: api.MaxLen, Bytes: make([]byte, 1<<26)}, 0, 0, 1, 1, nil, 0, api.ErrForm)
}
