package huff_test

import (
	"math"
	"slices"
	"testing"

	"lampwright/api"
	"lampwright/bits"
	"lampwright/huff"
	"lampwright/internal/sample"
)

// oddLists are right and wrong lists of frequencies, numbers of bits, and symbols.
func oddLists() [][]int {
	all := [][]int{nil, {}, {0}, {1}, {25}, {-1}, {1, 1, 1}, {3, 0, 2, 4, 4}, fibonacci(25), fibonacci(26), {math.MaxInt, math.MinInt}, {math.MinInt}}
	return append(all, make([]int, api.MaxSigns), make([]int, api.MaxSigns+1), make([]int, api.MaxPacked), make([]int, api.MaxPacked+1))
}

func TestP1ReturnsForAllArguments(t *testing.T) {
	for _, x := range oddLists() {
		if l, err := huff.Lengths(x); err != api.OK && len(l) != 0 || err == api.OK && len(l) != len(x) {
			t.Errorf("Lengths: %v %d", l, err)
		}
		for _, y := range oddLists() {
			if cost, err := huff.Cost(x, y); err != api.OK && cost != 0 {
				t.Errorf("Cost: %d beside the error %d", cost, err)
			}
		}
		for _, n := range []int{math.MinInt, -1, 0, 1, 64, 65, api.MaxPacked, api.MaxPacked + 1, math.MaxInt} {
			l, packed, err := huff.Pack(x, n)
			if bits.Check(packed) != api.OK || err != api.OK && (len(l) != 0 || packed.Len != 0) {
				t.Errorf("Pack: %v %v beside the error %d", l, packed, err)
			}
			for _, b := range sample.OddBits() {
				if signs, err := huff.Unpack(x, b, n); err != api.OK && len(signs) != 0 || err == api.OK && len(signs) != n {
					t.Errorf("Unpack of %d: %v %d", n, signs, err)
				}
			}
		}
	}
}

// A result that shared memory with an argument would carry the changes into it.
func TestP2ArgumentsStayAsTheyAre(t *testing.T) {
	for _, l := range oddLists() {
		m, other := sample.Around(l, 1), sample.Around(l, 3)
		lengths, _ := huff.Lengths(m.List)
		sample.Flip(lengths)
		huff.Cost(m.List, other.List)
		lengths, packed, _ := huff.Pack(m.List, 26)
		sample.Flip(lengths)
		sample.Scribble(packed)
		for n := range 5 {
			g := sample.Guarded("01010")
			signs, _ := huff.Unpack(m.List, g.Bits, n)
			sample.Flip(signs)
			if g.Changed() {
				t.Error("the bits are changed")
			}
		}
		if m.Changed() || other.Changed() {
			t.Errorf("the list %v is changed", l)
		}
	}
}

func TestP2EmptyListsCanBeNilOrNot(t *testing.T) {
	for _, l := range [][]int{nil, {}} {
		wantLengths(t, l, nil, api.OK)
		wantCost(t, l, nil, 0, api.OK)
		wantCost(t, nil, l, 0, api.OK)
		wantPack(t, l, 0, nil, "", api.OK)
		wantPack(t, l, 2, []int{0, 0}, "", api.OK)
		for _, b := range []api.Bits{{}, {Bytes: []byte{}}} {
			wantUnpack(t, l, b, 0, nil, api.OK)
			wantUnpack(t, []int{1}, b, 0, nil, api.OK)
		}
	}
}

func TestP3EachCallIsByItself(t *testing.T) {
	signs := []int{3, 1, 3, 0}
	for range 3 {
		wantPackedAndUnpacked(t, signs, 4)
		l, packed, _ := huff.Pack(signs, 4)
		unpacked, _ := huff.Unpack(l, packed, 4)
		sample.Flip(l)
		sample.Scribble(packed)
		sample.Flip(unpacked)
		wantPackedAndUnpacked(t, signs, 4)
		l, _ = huff.Lengths([]int{1, 1, 1})
		sample.Flip(l)
		wantLengths(t, []int{1, 1, 1}, []int{2, 2, 1}, api.OK)
		wantLengths(t, fibonacci(26), nil, api.ErrFull)
		wantCost(t, []int{1, 1, 1}, []int{2, 2, 1}, 5, api.OK)
	}
}

func TestP4HoldsForMuch(t *testing.T) {
	l := make([]int, 1<<22)
	if got, err := huff.Lengths(l); len(got) != 0 || err != api.ErrMany {
		t.Errorf("Lengths of a long list: %d %d", len(got), err)
	}
	if cost, err := huff.Cost(l, []int{1}); cost != 0 || err != api.ErrForm {
		t.Errorf("Cost of long lists: %d %d", cost, err)
	}
	if cost, err := huff.Cost(l, l); cost != 0 || err != api.ErrMany {
		t.Errorf("Cost of long lists: %d %d", cost, err)
	}
	for _, last := range []struct {
		symbol int
		err    api.Errno
	}{{0, api.ErrMany}, {1, api.ErrRange}} {
		signs := slices.Clone(l)
		signs[len(signs)-1] = last.symbol
		if got, packed, err := huff.Pack(signs, 1); len(got) != 0 || packed.Len != 0 || err != last.err {
			t.Errorf("Pack of a long list: %v %v %d, must be %d", got, packed, err, last.err)
		}
	}
	wantUnpack(t, []int{1}, api.Bits{Len: api.MaxLen, Bytes: make([]byte, 1<<26)}, 1, nil, api.ErrForm)
}
