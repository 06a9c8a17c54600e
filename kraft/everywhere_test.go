package kraft_test

import (
	"math"
	"reflect"
	"slices"
	"testing"

	"lampwright/api"
	"lampwright/bits"
	"lampwright/internal/sample"
	"lampwright/kraft"
)

// oddLists are right and wrong lists of numbers of bits.
func oddLists() [][]int {
	all := [][]int{nil, {}, {0}, {1}, {24}, {1, 1, 1}, {3, 0, 8, 2, 9, 9}, chain(24), {math.MaxInt, math.MinInt}}
	for _, w := range wrongLists() {
		all = append(all, w.l)
	}
	return all
}

// oddBits are right and wrong elements.
func oddBits() []api.Bits {
	all := bitsOf("", "1", "0", "0101", sample.Mixed(9), sample.Mixed(api.MaxLen))
	for _, w := range sample.WrongBits() {
		all = append(all, w.Bits)
	}
	return all
}

func TestP1ReturnsForAllArguments(t *testing.T) {
	for _, l := range oddLists() {
		want := kraft.Check(l)
		if room, err := kraft.Room(l); err != want || err != api.OK && room != 0 {
			t.Errorf("Room: %d %d, Check: %d", room, err, want)
		}
		codes, err := kraft.Codes(l)
		if err != api.OK && len(codes) != 0 || err == api.OK && len(codes) != len(l) {
			t.Errorf("Codes: %v %d", codes, err)
		}
		for _, code := range codes {
			if bits.Check(code) != api.OK {
				t.Errorf("Codes: %v is not bits", code)
			}
		}
		for _, b := range oddBits() {
			for _, at := range []int{math.MinInt, -1, 0, 1, api.MaxLen, math.MaxInt} {
				if symbol, after, err := kraft.Sign(l, b, at); err != api.OK && (symbol != 0 || after != 0) {
					t.Errorf("Sign: %d %d beside the error %d", symbol, after, err)
				}
			}
		}
	}
	for _, l := range [][]int{nil, {1, 1}, {24}} {
		sign(l).WantNothingBesideErrors(t)
	}
	for _, a := range oddBits() {
		for _, b := range oddBits() {
			if apart, err := kraft.Apart([]api.Bits{a, b}); err != api.OK && apart {
				t.Errorf("Apart: true beside the error %d", err)
			}
		}
	}
}

func TestP2ListsStayAsTheyAre(t *testing.T) {
	for _, l := range oddLists() {
		m := sample.Around(l, 1)
		kraft.Check(m.List)
		kraft.Room(m.List)
		codes, _ := kraft.Codes(m.List)
		for _, code := range codes {
			sample.Scribble(code)
		}
		for at := range 5 {
			kraft.Sign(m.List, sample.Bits("01011"), at)
		}
		if m.Changed() {
			t.Errorf("the list %v is changed", l)
		}
	}
}

func TestP2BitsStayAsTheyAre(t *testing.T) {
	for _, l := range [][]int{{1, 1}, {3, 0, 8, 2, 9, 9}, {24}} {
		sign(l).WantArgumentsKept(t)
	}
	var guards []sample.Guard
	var whole []api.Bits
	for _, text := range []string{"11", "0", "", "1011001110", "100", "1", "0111"} {
		g := sample.Guarded(text)
		guards = append(guards, g)
		whole = append(whole, g.Bits)
	}
	kept := slices.Clone(whole)
	for from := range whole {
		for to := from; to <= len(whole); to++ {
			kraft.Apart(whole[from:to])
		}
	}
	if !reflect.DeepEqual(whole, kept) {
		t.Error("the list of Apart is changed")
	}
	for _, g := range guards {
		if g.Changed() {
			t.Errorf("the element %v of Apart is changed", g.Bits)
		}
	}
}

// Codes that shared memory would carry the scribbling into each other.
func TestP2CodesShareNoMemory(t *testing.T) {
	for _, l := range [][]int{{1, 1}, chain(24), {3, 0, 8, 2, 9, 9}, slices.Repeat([]int{9}, api.MaxSigns)} {
		words := sample.Words(l)
		codes, _ := kraft.Codes(l)
		for i, code := range codes {
			sample.WantBits(t, "Codes", code, api.OK, words[i], api.OK)
			sample.Scribble(code)
		}
	}
}

func TestP2EmptyListsCanBeNilOrNot(t *testing.T) {
	for _, l := range [][]int{nil, {}} {
		if err := kraft.Check(l); err != api.OK {
			t.Errorf("Check: %d", err)
		}
		wantRoom(t, l, 1<<24, api.OK)
		wantCodes(t, l, nil)
		for _, b := range []api.Bits{{}, {Bytes: []byte{}}} {
			wantSign(t, l, b, 0, 0, 0, api.ErrNone)
			wantSign(t, []int{3}, b, 0, 0, 0, api.ErrShort)
			wantApart(t, []api.Bits{b, {}, b}, true, api.OK)
		}
	}
	wantApart(t, nil, true, api.OK)
	wantApart(t, []api.Bits{}, true, api.OK)
}

func TestP3EachCallIsByItself(t *testing.T) {
	for range 3 {
		for _, l := range [][]int{{2, 0, 1, 3, 3}, {1}, chain(24)} {
			words := sample.Words(l)
			wantCodes(t, l, words)
			codes, _ := kraft.Codes(l)
			wantApart(t, codes, true, api.OK)
			for _, code := range codes {
				sample.Scribble(code)
			}
			wantSign(t, l, sample.Bits("10"+words[0]), 2, 0, 2+l[0], api.OK)
			wantNoCodes(t, []int{1, 1, 1}, api.ErrFull)
			wantRoom(t, []int{1}, 1<<23, api.OK)
		}
	}
}

func TestP4HoldsForMuch(t *testing.T) {
	l := make([]int, 1<<22)
	wantNoCodes(t, l[:1<<20], api.ErrMany)
	if room, err := kraft.Room(l); room != 0 || err != api.ErrMany {
		t.Errorf("Room of a long list: %d %d", room, err)
	}
	much := api.Bits{Len: api.MaxLen, Bytes: make([]byte, 1<<26)}
	wantSign(t, []int{1}, much, 0, 0, 0, api.ErrForm)
	wantApart(t, []api.Bits{{}, much}, false, api.ErrForm)
	wantApart(t, make([]api.Bits, 1<<20), false, api.ErrMany)
}
