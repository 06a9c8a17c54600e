package fano_test

import (
	"math"
	"slices"
	"testing"

	"lampwright/api"
	"lampwright/bits"
	"lampwright/fano"
	"lampwright/internal/sample"
)

// readList returns what Read returns, and fails if it is not zero beside an error.
func readList(t *testing.T, f api.Fano) ([]int, api.Errno) {
	t.Helper()
	l, err := fano.Read(f)
	if err != api.OK && len(l) != 0 || err == api.OK && len(l) != f.N {
		t.Errorf("Read: %v beside the error %d", l, err)
	}
	return l, err
}

// oddNumbers are right and wrong tops, numbers of elements, widths, indices and elements.
func oddNumbers() []int {
	return []int{math.MinInt, -1, 0, 1, 2, 20, 64, most, most + 1, greatest, greatest + 1, math.MaxInt}
}

// oddFanos are right and wrong encoded lists.
func oddFanos() []api.Fano {
	all := []api.Fano{{}, sample.Fano(nil, 0), sample.Fano([]int{1, 1, 5, 12}, 15), sample.Fano(sample.Steps(0, 3000, most), greatest)}
	for _, n := range oddNumbers() {
		for _, top := range oddNumbers() {
			for _, width := range oddNumbers() {
				all = append(all, api.Fano{N: n, Top: top, Width: width, Low: sample.Bits("01010100"), High: sample.Bits("11010010")})
			}
		}
	}
	for _, low := range sample.OddBits() {
		for _, high := range sample.OddBits() {
			all = append(all, api.Fano{N: 4, Top: 15, Width: 2, Low: low, High: high}, api.Fano{N: most, Top: greatest, Width: 11, Low: low, High: high})
		}
	}
	return all
}

func TestP1ReturnsForAllArguments(t *testing.T) {
	for _, l := range append(sample.OddLists(), edgeLists()...) {
		for _, top := range oddNumbers() {
			f, err := fano.Write(l, top)
			if bits.Check(f.Low) != api.OK || bits.Check(f.High) != api.OK || err != api.OK && !sample.SameFano(f, api.Fano{}) {
				t.Errorf("Write: %v beside the error %d", f, err)
			}
		}
	}
	for _, f := range oddFanos() {
		_, wrong := readList(t, f)
		if err := fano.Check(f); err != wrong {
			t.Errorf("Check: %d, but Read: %d", err, wrong)
		}
		for _, n := range oddNumbers() {
			if got, err := fano.Get(f, n); err != api.OK && got != 0 || err == api.OK && wrong != api.OK {
				t.Errorf("Get: %d beside the error %d", got, err)
			}
			if i, got, err := fano.Next(f, n); err != api.OK && (i != 0 || got != 0) || err == api.OK && wrong != api.OK {
				t.Errorf("Next: %d %d beside the error %d", i, got, err)
			}
		}
	}
}

// A result that shared memory with an argument would carry the changes into it.
func TestP2ArgumentsStayAsTheyAre(t *testing.T) {
	for _, l := range append(sample.OddLists(), edgeLists()...) {
		m := sample.Around(l, 1)
		for _, top := range oddNumbers() {
			f, _ := fano.Write(m.List, top)
			sample.Scribble(f.Low)
			sample.Scribble(f.High)
		}
		if m.Changed() {
			t.Errorf("the list %v is changed", l)
		}
	}
	for _, c := range changeable() {
		f := sample.Fano(c.l, c.top)
		low, high := sample.Guarded(text(f.Low)), sample.Guarded(text(f.High))
		f.Low, f.High = low.Bits, high.Bits
		for _, n := range oddNumbers() {
			other := f
			other.N = n
			for _, f := range []api.Fano{f, other} {
				fano.Check(f)
				l, _ := fano.Read(f)
				sample.Flip(l)
				fano.Get(f, n)
				fano.Next(f, n)
			}
		}
		if low.Changed() || high.Changed() {
			t.Errorf("the bits of %v are changed", c.l)
		}
	}
}

func TestP2ResultsShareNoMemory(t *testing.T) {
	for _, c := range changeable() {
		f, _ := fano.Write(c.l, c.top)
		low := text(f.Low)
		sample.Scribble(f.High)
		if text(f.Low) != low {
			t.Errorf("the bits of %v share memory", c.l)
		}
		f, _ = fano.Write(c.l, c.top)
		read, _ := fano.Read(f)
		again, _ := fano.Read(f)
		if sample.ShareMemory(read, again, c.l) {
			t.Errorf("what is read of %v shares memory", c.l)
		}
	}
}

func TestP2EmptyListsCanBeNilOrNot(t *testing.T) {
	for _, l := range [][]int{nil, {}} {
		wantWritten(t, l, 3, sample.Fano(nil, 3))
	}
	for _, none := range [][]byte{nil, {}} {
		low := api.Bits{Bytes: none}
		wantRead(t, api.Fano{Top: 3, Low: low, High: sample.Bits("0000")}, nil, api.OK)
		wantRead(t, api.Fano{N: 2, Low: low, High: sample.Bits("110")}, []int{0, 0}, api.OK)
		wantGet(t, api.Fano{N: 2, Low: low, High: sample.Bits("110")}, 1, 0, api.OK)
		wantRefused(t, api.Fano{Low: low, High: low}, api.ErrForm)
	}
}

func TestP3EachCallIsByItself(t *testing.T) {
	list := []int{1, 1, 5, 12}
	f := sample.Fano(list, 15)
	for range 3 {
		wantBoth(t, list, 15)
		written, _ := fano.Write(list, 15)
		read, _ := fano.Read(written)
		sample.Scribble(written.Low)
		sample.Scribble(written.High)
		sample.Flip(read)
		wantWritten(t, list, 15, f)
		wantRead(t, f, list, api.OK)
		wantNotWritten(t, list, 11, api.ErrRange)
		wantGet(t, f, 4, 0, api.ErrRange)
		wantGet(t, f, 2, 5, api.OK)
		wantNext(t, f, 13, 0, 0, api.ErrNone)
		wantNext(t, f, 2, 2, 5, api.OK)
	}
}

func TestP4HoldsForMuch(t *testing.T) {
	wantNotWritten(t, make([]int, 1<<22), greatest, api.ErrMany)
	wantNotWritten(t, slices.Repeat([]int{-1}, 1<<22), 0, api.ErrMany)
	wantNotWritten(t, make([]int, 1<<22), -1, api.ErrRange)
	much := make([]byte, 1<<26)
	for _, b := range []api.Bits{{Len: api.MaxLen, Bytes: much}, {Len: 1 << 29, Bytes: much}, {Len: 8, Bytes: much}} {
		for _, f := range []api.Fano{{N: 4, Top: 15, Width: 2, Low: b, High: sample.Bits("11010010")}, {N: 4, Top: 15, Width: 2, Low: sample.Bits("01010100"), High: b}, {Top: api.MaxLen - 1, High: b}, {Top: greatest, Low: b, High: b}} {
			if l, err := fano.Read(f); len(l) != 0 || err != api.ErrForm || fano.Check(f) != api.ErrForm {
				t.Errorf("Read of many bytes: %d %d", len(l), err)
			}
			if n, err := fano.Get(f, 0); n != 0 || err != api.ErrForm {
				t.Errorf("Get of many bytes: %d %d", n, err)
			}
			if i, n, err := fano.Next(f, 0); i != 0 || n != 0 || err != api.ErrForm {
				t.Errorf("Next of many bytes: %d %d %d", i, n, err)
			}
		}
	}
}
