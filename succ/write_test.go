package succ_test

import (
	"slices"
	"testing"

	"lampwright/api"
	"lampwright/internal/sample"
	"lampwright/succ"
)

func TestL2WriteByHand(t *testing.T) {
	plain, withRuns := api.How{K: 1}, api.How{Least: 2, K: 1}
	copies, both := api.How{Back: 1, K: 2}, api.How{Back: 1, Least: 3, K: 3}
	for _, c := range []struct {
		node    int
		l, from []int
		h       api.How
		text    string
	}{
		// The example of the document.
		{7, []int{2, 3, 4, 5, 9, 20}, []int{3, 9, 11}, both, "00111" + "010" + "011" + "1" + "0100010" + "1010" + "100" + "0100111"},
		{7, nil, []int{3, 9, 11}, both, "1"},
		{7, nil, nil, plain, "1"},
		{2, []int{2}, nil, plain, "010" + "1"},
		{2, []int{1}, nil, plain, "010" + "010"},
		{2, []int{3}, nil, plain, "010" + "011"},
		// Without a reference, from is ignored.
		{2, []int{3}, []int{3}, plain, "010" + "011"},
		{2, []int{3}, []int{3, 3}, plain, "010" + "011"},
		// All are copied: no blocks, and no rest.
		{2, []int{1, 3}, []int{1, 3}, copies, "011" + "1"},
		{2, []int{1, 3}, []int{1, 3}, both, "011" + "1"},
		{2, []int{3}, []int{1, 3}, copies, "010" + "011" + "1" + "1"},
		{2, []int{1}, []int{1, 3}, copies, "010" + "010" + "010"},
		{2, []int{2}, []int{1, 3}, copies, "010" + "010" + "1" + "10"},
		{2, []int{2}, nil, copies, "010" + "1" + "10"},
		{2, []int{2}, nil, both, "010" + "1" + "1" + "100"},
		// The third block is 2, the second one 3: both are written as 1 less.
		{0, []int{1, 5, 6}, []int{1, 2, 3, 4, 5, 6, 7}, copies, "00100" + "00100" + "010" + "011" + "010"},
		// One run and no other number; then one and two more, before and after it.
		{7, []int{2, 3, 4, 5}, nil, withRuns, "00101" + "010" + "0001010" + "011"},
		{5, []int{1, 4, 5, 6, 9}, nil, withRuns, "00110" + "010" + "010" + "010" + "0001000" + "0001000"},
		// Two runs: 3 is the last number of one, and 5 that is the least one with which another can begin.
		{2, []int{2, 3, 5, 6}, nil, withRuns, "00101" + "011" + "1" + "1" + "1" + "1"},
		{2, []int{2, 3, 9, 10, 11}, nil, withRuns, "00110" + "011" + "1" + "1" + "00101" + "010"},
		{0, []int{2, 3, 9, 10, 11}, nil, api.How{Least: 3, K: 1}, "00110" + "010" + "000010011" + "1" + "00101" + "1"},
		// What is copied is not in a run.
		{3, []int{3, 4, 5, 6}, []int{5}, both, "00101" + "1" + "1" + "100" + "100" + "1010"},
		{3, []int{3, 4, 5, 6}, []int{6}, both, "00101" + "1" + "010" + "1" + "1"},
	} {
		wantWrite(t, c.node, c.l, c.from, c.h, c.text, api.OK)
		l, b := c.l, sample.Bits("0110"+c.text+"01")
		wantRead(t, b, 4, c.node, c.from, c.h, l, 4+len(c.text), api.OK)
	}
}

func TestL2WriteOfEachShortList(t *testing.T) {
	for _, h := range sample.Hows() {
		for i, l := range sample.Rising(7) {
			for _, from := range sample.Rising(5) {
				node := i % 9
				wantWrite(t, node, l, from, h, sample.Succ(node, l, from, h), api.OK)
			}
		}
	}
}

func TestL2WriteOfEdgeLists(t *testing.T) {
	for _, h := range []api.How{{K: 1}, {Least: 2, K: 7}, {Back: 7, K: 16}, {Back: 1, Least: 2, K: 1}, {Back: 2, Least: 3, K: 4}, {Back: 3, Least: most, K: 3}} {
		for i, l := range sample.EdgeLists() {
			for k, from := range sample.EdgeLists() {
				node := []int{0, 1, 700, top / 2, top - 1, top}[(i+k)%6]
				text := sample.Succ(node, l, from, h)
				wantWrite(t, node, l, from, h, text, api.OK)
				wantRead(t, sample.Bits(text), 0, node, from, h, l, len(text), api.OK)
			}
		}
	}
}

// As many blocks as there can be, as many runs, and the longest blocks and runs.
func TestL2WriteOfAsMuchAsThereCanBe(t *testing.T) {
	full, even, odd := sample.Steps(0, 1, most), sample.Steps(0, 2, most/2), sample.Steps(1, 2, most/2)
	pairs := slices.Concat(sample.Steps(0, 3, most/2), sample.Steps(1, 3, most/2))
	slices.Sort(pairs)
	for _, c := range []struct{ l, from []int }{
		{odd, full}, {even, full}, {pairs, nil}, {pairs, odd}, {full, even}, {full, nil}, {full, full},
		{full[most-1:], full}, {full[most-2:], full}, {full[:most-1], full}, {full[:1], full}, {[]int{most}, full},
	} {
		for _, h := range sample.Hows() {
			text := sample.Succ(most, c.l, c.from, h)
			wantWrite(t, most, c.l, c.from, h, text, api.OK)
			wantRead(t, sample.Bits(text), 0, most, c.from, h, c.l, len(text), api.OK)
		}
	}
}

// far is a list whose gaps need as many bits as possible: 7346, with K 1. With blocks and runs, no list needs more than 7423, which is less than MaxLen.
func far() []int {
	return slices.Concat(sample.Steps(0, 2048, 87), sample.Steps(86*2048+4096, 4096, 213))
}

func TestL2WriteAlwaysHasRoom(t *testing.T) {
	for _, h := range sample.Hows() {
		for _, from := range [][]int{nil, far(), sample.Steps(0, 1, most), sample.Steps(0, 2048, most), sample.Steps(2048, 4096, 200)} {
			text := sample.Succ(top, far(), from, h)
			wantWrite(t, top, far(), from, h, text, api.OK)
			wantRead(t, sample.Bits(text), 0, top, from, h, far(), len(text), api.OK)
		}
	}
	if b, err := succ.Write(top, far(), nil, api.How{Back: 1, Least: 2, K: 1}); b.Len != 17+1+1+7346 || err != api.OK {
		t.Errorf("Write: %d bits, %d", b.Len, err)
	}
}

func TestL2WriteErrors(t *testing.T) {
	backed, plain := api.How{Back: 1, Least: 3, K: 3}, api.How{Least: 2, K: 1}
	for _, h := range sample.WrongHows() {
		for _, node := range append(wrongNodes(), 0, top) {
			wantWrite(t, node, nil, nil, h, "", api.ErrRange)
			wantWrite(t, node, []int{3, 3}, []int{3, 3}, h, "", api.ErrRange)
			wantWrite(t, node, make([]int, most+1), nil, h, "", api.ErrRange)
		}
	}
	for _, node := range wrongNodes() {
		for _, h := range []api.How{backed, plain} {
			wantWrite(t, node, nil, nil, h, "", api.ErrRange)
			wantWrite(t, node, []int{3, 3}, []int{3, 3}, h, "", api.ErrRange)
			wantWrite(t, node, make([]int, most+1), nil, h, "", api.ErrRange)
		}
	}
	for _, w := range sample.WrongLists() {
		for _, other := range [][]int{nil, {3, 5}, {3, 3}, {-1}, make([]int, most+1)} {
			wantWrite(t, 5, w.List, other, backed, "", w.Err)
			wantWrite(t, 5, w.List, other, plain, "", w.Err)
		}
		// Also a reference of which nothing is written is checked, if there is one.
		for _, l := range [][]int{nil, {3, 5}} {
			wantWrite(t, 5, l, w.List, backed, "", w.Err)
			wantWrite(t, 5, l, w.List, plain, sample.Succ(5, l, nil, plain), api.OK)
		}
	}
}
