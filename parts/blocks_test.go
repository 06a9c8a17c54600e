package parts_test

import (
	"slices"
	"testing"

	"lampwright/api"
	"lampwright/internal/sample"
	"lampwright/parts"
)

func wantBlocks(t *testing.T, from, l, blocks, rest []int, err api.Errno) {
	t.Helper()
	gotBlocks, gotRest, gotErr := parts.Blocks(from, l)
	if !slices.Equal(gotBlocks, blocks) || !slices.Equal(gotRest, rest) || gotErr != err {
		t.Errorf("Blocks of %v and %v: %v %v %d, must be %v %v %d", from, l, gotBlocks, gotRest, gotErr, blocks, rest, err)
	}
}

// alternating are the blocks that leave out the first one of many elements, and copy each second one.
func alternating(many int) []int { return append([]int{0}, slices.Repeat([]int{1}, many-1)...) }

func TestK2BlocksByHand(t *testing.T) {
	for _, c := range []struct{ from, l, blocks, rest []int }{
		{nil, nil, nil, nil},
		{nil, []int{3, 4}, nil, []int{3, 4}},
		{[]int{3, 4}, nil, []int{0}, nil},
		{[]int{3, 4}, []int{3, 4}, nil, nil},
		{[]int{3, 4}, []int{3}, []int{1}, nil},
		{[]int{3, 4}, []int{4}, []int{0, 1}, nil},
		{[]int{3, 4}, []int{0, 5}, []int{0}, []int{0, 5}},
		{[]int{3, 4}, []int{0, 3, 4, 5}, nil, []int{0, 5}},
		// The example of the document.
		{[]int{3, 9, 11}, []int{2, 3, 4, 5, 9, 20}, []int{2}, []int{2, 4, 5, 20}},
		{[]int{1, 2, 3, 4, 5, 6}, []int{1, 2, 6}, []int{2, 3}, nil},
		{[]int{1, 2, 3, 4, 5, 6}, []int{3, 4}, []int{0, 2, 2}, nil},
		{[]int{1, 2, 3, 4, 5, 6}, []int{2, 3, 4, 6}, []int{0, 1, 3, 1}, nil},
		{[]int{0, top}, []int{top}, []int{0, 1}, nil},
		{[]int{0, top}, []int{1, top - 1}, []int{0}, []int{1, top - 1}},
		{sample.Steps(0, 1, most), sample.Steps(0, 1, most), nil, nil},
		{sample.Steps(0, 1, most), sample.Steps(most, 1, most), []int{0}, sample.Steps(most, 1, most)},
		{sample.Steps(0, 1, most), sample.Steps(1, 1, most), []int{0, 1}, []int{most}},
		{sample.Steps(1, 1, most), sample.Steps(0, 1, most), []int{most - 1}, []int{0}},
		{sample.Steps(0, 1, most), sample.Steps(1, 2, most/2), alternating(most), nil},
		{sample.Steps(0, 1, most), sample.Steps(0, 2, most/2), slices.Repeat([]int{1}, most-1), nil},
	} {
		wantBlocks(t, c.from, c.l, c.blocks, c.rest, api.OK)
	}
}

// blocksOf returns all blocks of many elements that are allowed, the fewest first.
func blocksOf(many int) [][]int {
	all := [][]int{nil}
	for i := 0; i < len(all); i++ {
		left := many
		for _, block := range all[i] {
			left -= block
		}
		for block := min(i, 1); block <= left && len(all[i]) <= many; block++ {
			all = append(all, append(slices.Clone(all[i]), block))
		}
	}
	return all
}

// Of all blocks that copy the elements that are in both lists, exactly one has the smallest number, and no others are returned.
func TestK2BlocksAreTheFewest(t *testing.T) {
	for _, from := range sample.Rising(7) {
		all := blocksOf(len(from))
		for _, l := range sample.Rising(8) {
			both, rest := divide(l, from)
			fewest := slices.DeleteFunc(slices.Clone(all), func(blocks []int) bool { return !slices.Equal(copied(from, blocks), both) })
			if len(fewest) > 1 && len(fewest[0]) == len(fewest[1]) {
				t.Errorf("%v and %v are both the fewest of %v", fewest[0], fewest[1], from)
			}
			wantBlocks(t, from, l, fewest[0], rest, api.OK)
		}
	}
}

// divide returns the elements of l that are in from, and those that are not.
func divide(l, from []int) (both, rest []int) {
	for _, n := range l {
		if slices.Contains(from, n) {
			both = append(both, n)
		} else {
			rest = append(rest, n)
		}
	}
	return both, rest
}

func TestK2BlocksOfEdgeLists(t *testing.T) {
	for _, from := range sample.EdgeLists() {
		for _, l := range sample.EdgeLists() {
			both, rest := divide(l, from)
			blocks, gotRest, err := parts.Blocks(from, l)
			if err != api.OK || !slices.Equal(gotRest, rest) || !slices.Equal(copied(from, blocks), both) {
				t.Errorf("Blocks of %v and %v: %v %v %d", from, l, blocks, gotRest, err)
			}
			wantCopy(t, from, blocks, both, api.OK)
			wantJoin(t, from, blocks, rest, l, api.OK)
		}
	}
}

// What is wrong with the first list comes before what is wrong with the second one.
func TestK2BlocksErrors(t *testing.T) {
	for _, w := range sample.WrongLists() {
		wantBlocks(t, w.List, nil, nil, nil, w.Err)
		wantBlocks(t, w.List, []int{3, 4}, nil, nil, w.Err)
		wantBlocks(t, nil, w.List, nil, nil, w.Err)
		wantBlocks(t, []int{3, 4}, w.List, nil, nil, w.Err)
		for _, other := range [][]int{{3, 3}, {-1}, make([]int, most+1)} {
			wantBlocks(t, w.List, other, nil, nil, w.Err)
		}
	}
}
