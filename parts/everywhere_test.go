package parts_test

import (
	"testing"

	"lampwright/api"
	"lampwright/internal/sample"
	"lampwright/parts"
)

// oddBlocks are right and wrong blocks.
func oddBlocks() [][]int {
	all := [][]int{nil, {}, {0}, {1}, {2}, {0, 1}, {1, 1, 1}, alternating(most), alternating(most + 1), alternating(most + 2)}
	for _, wrong := range wrongBlocks() {
		all = append(all, wrong...)
	}
	return all
}

func TestP1ReturnsForAllArguments(t *testing.T) {
	for _, from := range sample.OddLists() {
		for _, l := range sample.OddLists() {
			blocks, rest, err := parts.Blocks(from, l)
			if err != api.OK && len(blocks)+len(rest) != 0 {
				t.Errorf("Blocks: %v %v beside the error %d", blocks, rest, err)
			}
		}
		for _, blocks := range oddBlocks() {
			if l, err := parts.Copy(from, blocks); err != api.OK && len(l) != 0 {
				t.Errorf("Copy: %v beside the error %d", l, err)
			}
			for _, rest := range sample.OddLists() {
				if l, err := parts.Join(from, blocks, rest); err != api.OK && len(l) != 0 {
					t.Errorf("Join: %v beside the error %d", l, err)
				}
			}
		}
	}
}

// use calls each function, and flips what it returns. A result that shared memory with an argument would carry the changes into it.
func use(from, blocks, l []int) {
	copied, _ := parts.Copy(from, blocks)
	sample.Flip(copied)
	joined, _ := parts.Join(from, blocks, l)
	sample.Flip(joined)
	fewest, rest, _ := parts.Blocks(from, l)
	sample.Flip(fewest)
	sample.Flip(rest)
}

func TestP2ArgumentsStayAsTheyAre(t *testing.T) {
	for _, list := range sample.OddLists() {
		from, l := sample.Around(list, 1), sample.Around(list, 0)
		for _, other := range [][]int{nil, {}, {1, 2, 4, 5, 30}, {2000}} {
			for _, blocks := range [][]int{nil, {}, {0}, {1}, {2, 1}} {
				use(from.List, blocks, other)
				use(other, blocks, l.List)
			}
		}
		if from.Changed() || l.Changed() {
			t.Errorf("the list %v is changed", list)
		}
	}
	for _, list := range oddBlocks() {
		blocks := sample.Around(list, 1)
		for _, from := range sample.OddLists() {
			use(from, blocks.List, []int{5, 9})
		}
		if blocks.Changed() {
			t.Errorf("the blocks %v are changed", list)
		}
	}
}

func TestP2ResultsShareNoMemory(t *testing.T) {
	from, l := []int{3, 9, 11, 12}, []int{2, 3, 4, 5, 9, 12, 20}
	blocks, rest, _ := parts.Blocks(from, l)
	sample.Flip(blocks)
	wantJoin(t, nil, nil, rest, []int{2, 4, 5, 20}, api.OK)
	blocks, rest, _ = parts.Blocks(from, l)
	sample.Flip(rest)
	wantCopy(t, from, blocks, []int{3, 9, 12}, api.OK)
}

func TestP2EmptyListsCanBeNilOrNot(t *testing.T) {
	for _, a := range [][]int{nil, {}} {
		for _, b := range [][]int{nil, {}} {
			wantBlocks(t, a, b, nil, nil, api.OK)
			wantCopy(t, a, b, nil, api.OK)
			wantCopy(t, []int{3, 5}, b, []int{3, 5}, api.OK)
			for _, c := range [][]int{nil, {}} {
				wantJoin(t, a, b, c, nil, api.OK)
			}
		}
	}
}

func TestP3EachCallIsByItself(t *testing.T) {
	from, l, blocks, rest := []int{3, 9, 11}, []int{2, 3, 4, 5, 9, 20}, []int{2}, []int{2, 4, 5, 20}
	for range 3 {
		wantBlocks(t, from, l, blocks, rest, api.OK)
		wantCopy(t, from, blocks, []int{3, 9}, api.OK)
		wantJoin(t, from, blocks, rest, l, api.OK)
		use(from, blocks, l)
		use(from, blocks, rest)
		wantCopy(t, from, []int{4}, nil, api.ErrFull)
		wantJoin(t, from, blocks, l, nil, api.ErrTwice)
	}
}

func TestP4HoldsForMuch(t *testing.T) {
	long := sample.Steps(0, 1, 1<<22)
	for _, other := range [][]int{nil, {3, 5}} {
		wantBlocks(t, long, other, nil, nil, api.ErrMany)
		wantBlocks(t, other, long, nil, nil, api.ErrMany)
		wantCopy(t, long, other, nil, api.ErrMany)
		wantCopy(t, other, long, nil, api.ErrMany)
		wantJoin(t, long, other, nil, nil, api.ErrMany)
		wantJoin(t, other, long, nil, nil, api.ErrMany)
		wantJoin(t, other, nil, long, nil, api.ErrMany)
	}
}
