package shelf_test

import (
	"math"
	"slices"
	"testing"

	"lampwright/api"
	"lampwright/internal/sample"
)

// wantRefused fails unless all functions have this error, whether or not there are such nodes.
func wantRefused(t *testing.T, s api.Shelf, err api.Errno) {
	t.Helper()
	wantCheck(t, s, err)
	for _, node := range []int{math.MinInt, -1, 0, s.Packed.N, math.MaxInt} {
		wantList(t, s, node, nil, 0, err)
		wantLeads(t, s, node, 0, false, err)
		wantLeads(t, s, 0, node, false, err)
	}
}

// changeable returns shelves that are changed.
func changeable() []api.Shelf {
	var all []api.Shelf
	for _, g := range append(sample.MixedGraphs()[:5], api.Graph{}, sample.Graph(nil), sample.Graph([]int{0})) {
		for _, h := range []api.How{{K: 1}, {Back: 3, Least: 2, K: 2}} {
			all = append(all, sample.Shelf(g, h))
		}
	}
	return all
}

// with returns a shelf with other positions.
func with(s api.Shelf, starts api.Fano) api.Shelf {
	s.Starts = starts
	return s
}

// flipped returns bits in which one is another one.
func flipped(b api.Bits, at int) api.Bits {
	b.Bytes = slices.Clone(b.Bytes)
	b.Bytes[at/8] ^= 0x80 >> (at % 8)
	return b
}

func TestQ1CheckRefusesOtherNumbers(t *testing.T) {
	for _, s := range changeable() {
		for _, n := range []int{math.MinInt, -1, 0, 1, s.Starts.N - 1, s.Starts.N + 1, api.MaxList, api.MaxList + 1, math.MaxInt} {
			if f := s.Starts; n != f.N {
				f.N = n
				wantRefused(t, with(s, f), api.ErrState)
			}
		}
		for _, top := range []int{math.MinInt, -1, 0, 1, s.Starts.Top - 1, s.Starts.Top + 1, api.MaxLen, api.MaxNode, api.MaxNode + 1, math.MaxInt} {
			if f := s.Starts; top != f.Top {
				f.Top = top
				wantRefused(t, with(s, f), api.ErrState)
			}
		}
		for _, width := range []int{math.MinInt, -1, 0, 1, s.Starts.Width - 1, s.Starts.Width + 1, 20, 64, math.MaxInt} {
			if f := s.Starts; width != f.Width {
				f.Width = width
				wantRefused(t, with(s, f), api.ErrState)
			}
		}
	}
}

func TestQ1CheckRefusesOtherBits(t *testing.T) {
	for _, s := range changeable() {
		for at := range s.Starts.Low.Len {
			f := s.Starts
			f.Low = flipped(f.Low, at)
			wantRefused(t, with(s, f), api.ErrState)
		}
		for at := range s.Starts.High.Len {
			f := s.Starts
			f.High = flipped(f.High, at)
			wantRefused(t, with(s, f), api.ErrState)
		}
		others := append(sample.OddBits(), sample.Bits("0"), sample.Bits("1"), sample.Bits("00"), sample.Bits("10"), sample.Bits("00000000"))
		for _, other := range others {
			if f := s.Starts; !slices.Equal(f.Low.Bytes, other.Bytes) || f.Low.Len != other.Len {
				f.Low = other
				wantRefused(t, with(s, f), api.ErrState)
			}
			if f := s.Starts; !slices.Equal(f.High.Bytes, other.Bytes) || f.High.Len != other.Len {
				f.High = other
				wantRefused(t, with(s, f), api.ErrState)
			}
		}
	}
}

// Bits and bytes beyond those of the positions.
func TestQ1CheckRefusesMoreThanTheBits(t *testing.T) {
	s := sample.Shelf(sample.Graph([]int{0, 1}, []int{0, 1}, []int{0, 1}), api.How{K: 1})
	for _, bits := range []func(f *api.Fano) *api.Bits{
		func(f *api.Fano) *api.Bits { return &f.Low },
		func(f *api.Fano) *api.Bits { return &f.High },
	} {
		for _, change := range []func(b *api.Bits){
			func(b *api.Bits) { b.Len++ },
			func(b *api.Bits) { b.Len-- },
			func(b *api.Bits) { b.Bytes = append(slices.Clone(b.Bytes), 0) },
			func(b *api.Bits) { b.Bytes = b.Bytes[:len(b.Bytes)-1] },
			func(b *api.Bits) { b.Bytes = append(slices.Clone(b.Bytes[:len(b.Bytes)-1]), b.Bytes[len(b.Bytes)-1]|1) },
		} {
			f := s.Starts
			change(bits(&f))
			wantRefused(t, with(s, f), api.ErrState)
		}
	}
}

// Encoded lists that are right, but not those of the positions.
func TestQ1CheckRefusesOtherPositions(t *testing.T) {
	for _, g := range append(sample.MixedGraphs(), sample.Graph(nil), api.Graph{}) {
		for _, h := range hows() {
			s := sample.Shelf(g, h)
			text, _, starts := sample.Pack(g, h)
			for _, other := range otherPositions(starts, len(text)) {
				wantRefused(t, with(s, sample.Fano(other, len(text))), api.ErrState)
			}
			// Top is the number of bits, and not the last position or the next one.
			for _, top := range []int{slices.Max(append(starts, 0)), len(text) - 1, len(text) + 1, 2*len(text) + 1, api.MaxLen - 1} {
				if top >= 0 && top != len(text) {
					wantRefused(t, with(s, sample.Fano(starts, top)), api.ErrState)
				}
			}
			wantRefused(t, with(s, api.Fano{}), api.ErrState)
		}
	}
}

// otherPositions returns lists with another position, one more, or one less, none of them beyond top.
func otherPositions(starts []int, top int) [][]int {
	all := [][]int{append(slices.Clone(starts), top)}
	for i := range starts {
		all = append(all, slices.Delete(slices.Clone(starts), i, i+1))
		for _, step := range []int{-1, 1} {
			other := slices.Clone(starts)
			other[i] += step
			if other[i] >= 0 && other[i] <= top && slices.IsSorted(other) {
				all = append(all, other)
			}
		}
	}
	return all
}

// The graph of one shelf with the positions of another one.
func TestQ1CheckOfEachTwoShelves(t *testing.T) {
	all := changeable()
	for i, s := range all {
		for j, other := range all {
			mixed := with(s, other.Starts)
			if i == j || sample.SameFano(s.Starts, other.Starts) {
				wantCheck(t, mixed, api.OK)
			} else {
				wantRefused(t, mixed, api.ErrState)
			}
		}
	}
}

// oddStarts are positions, right and wrong, for a graph that is wrong.
func oddStarts(s api.Shelf) []api.Fano {
	return []api.Fano{{}, s.Starts, {N: -1, Top: -1}, {High: api.Bits{Len: -1}}, sample.Fano([]int{0, 3}, 9)}
}

func TestQ1CheckErrorsOfThePackedGraph(t *testing.T) {
	right := sample.Shelf(sample.Graph([]int{0, 1}, []int{0, 1}, nil), api.How{Back: 1, K: 1})
	wantCheck(t, right, api.OK)
	for _, starts := range oddStarts(right) {
		s := with(right, starts)
		for _, n := range []int{math.MinInt, -1, nodes + 1, math.MaxInt} {
			s.Packed.N = n
			wantRefused(t, s, api.ErrRange)
			s.Packed.Bits = api.Bits{Bytes: []byte{0}}
			wantRefused(t, s, api.ErrRange)
			s.Packed.Bits = right.Packed.Bits
		}
		for _, n := range []int{0, 2, 4, nodes} {
			s.Packed.N = n
			wantRefused(t, s, api.ErrForm)
		}
		s.Packed.N = right.Packed.N
		for _, h := range sample.WrongHows() {
			s.Packed.How = h
			wantRefused(t, s, api.ErrRange)
		}
		s.Packed.How = right.Packed.How
		for _, w := range sample.WrongBits() {
			s.Packed.Bits = w.Bits
			wantRefused(t, s, w.Err)
		}
	}
}

// wantShortTexts fails unless of all texts of at most longest signs exactly those of graphs whose nodes begin at these positions are right.
func wantShortTexts(t *testing.T, longest int, starts api.Fano, shelves map[string]api.Shelf, s api.Shelf) {
	t.Helper()
	for _, text := range sample.Texts(longest) {
		s.Packed.Bits = sample.Bits(text)
		right, ok := shelves[text]
		switch {
		case !ok:
			wantCheck(t, with(s, starts), api.ErrForm)
		case sample.SameFano(right.Starts, starts):
			wantCheck(t, with(s, starts), api.OK)
		default:
			wantRefused(t, with(s, starts), api.ErrState)
		}
	}
}

func TestQ1CheckOfEachShortText(t *testing.T) {
	for n := range 3 {
		for _, h := range hows() {
			shelves := map[string]api.Shelf{}
			for _, g := range sample.Graphs(n) {
				text, _, _ := sample.Pack(g, h)
				shelves[text] = sample.Shelf(g, h)
			}
			for _, s := range shelves {
				wantShortTexts(t, 9, s.Starts, shelves, s)
			}
		}
	}
}
