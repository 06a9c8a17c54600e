package parts_test

import (
	"math"
	"slices"
	"testing"

	"lampwright/api"
	"lampwright/internal/sample"
	"lampwright/parts"
)

const most, top = api.MaxList, api.MaxNode

func wantCopy(t *testing.T, from, blocks, l []int, err api.Errno) {
	t.Helper()
	if gotL, gotErr := parts.Copy(from, blocks); !slices.Equal(gotL, l) || gotErr != err {
		t.Errorf("Copy of %v by %v: %v %d, must be %v %d", from, blocks, gotL, gotErr, l, err)
	}
}

func wantJoin(t *testing.T, from, blocks, rest, l []int, err api.Errno) {
	t.Helper()
	if gotL, gotErr := parts.Join(from, blocks, rest); !slices.Equal(gotL, l) || gotErr != err {
		t.Errorf("Join of %v by %v with %v: %v %d, must be %v %d", from, blocks, rest, gotL, gotErr, l, err)
	}
}

// copied looks for each element in which block it is. The elements after the last block are in one more.
func copied(from, blocks []int) []int {
	var l []int
	for at, n := range from {
		block, after := 0, 0
		for block < len(blocks) && after+blocks[block] <= at {
			after += blocks[block]
			block++
		}
		if block%2 == 0 {
			l = append(l, n)
		}
	}
	return l
}

// errorOf is the first error that K1 names for a few blocks, which are small.
func errorOf(from, blocks []int) api.Errno {
	if len(blocks) >= len(from)+2 {
		return api.ErrMany
	}
	sum := 0
	for i, block := range blocks {
		if block < 0 || i > 0 && block == 0 {
			return api.ErrRange
		}
		sum += block
	}
	if sum > len(from) {
		return api.ErrFull
	}
	return api.OK
}

func TestK1CopyByHand(t *testing.T) {
	for _, c := range []struct{ from, blocks, l []int }{
		{nil, nil, nil},
		{nil, []int{0}, nil},
		{[]int{4}, nil, []int{4}},
		{[]int{4}, []int{0}, nil},
		{[]int{4}, []int{1}, []int{4}},
		{[]int{4}, []int{0, 1}, nil},
		{[]int{3, 9, 11}, nil, []int{3, 9, 11}},
		// The example of the document.
		{[]int{3, 9, 11}, []int{2}, []int{3, 9}},
		{[]int{3, 9, 11}, []int{3}, []int{3, 9, 11}},
		{[]int{3, 9, 11}, []int{0, 1}, []int{9, 11}},
		{[]int{3, 9, 11}, []int{0, 1, 1}, []int{9}},
		{[]int{3, 9, 11}, []int{0, 1, 1, 1}, []int{9}},
		{[]int{3, 9, 11}, []int{1, 1}, []int{3, 11}},
		{[]int{3, 9, 11}, []int{1, 1, 1}, []int{3, 11}},
		{[]int{3, 9, 11}, []int{1, 2}, []int{3}},
		{[]int{0, 1, 2, 3, 4, 5, 6, 7, 8, 9}, []int{2, 3, 1, 2}, []int{0, 1, 5, 8, 9}},
		{sample.Steps(0, 1, most), []int{most}, sample.Steps(0, 1, most)},
		{sample.Steps(0, 1, most), []int{0, most}, nil},
		{sample.Steps(0, 1, most), alternating(most), sample.Steps(1, 2, most/2)},
		{sample.Steps(0, 1, most), alternating(most + 1), sample.Steps(1, 2, most/2)},
		{sample.Steps(0, 1, most), slices.Repeat([]int{1}, most), sample.Steps(0, 2, most/2)},
	} {
		wantCopy(t, c.from, c.blocks, c.l, api.OK)
	}
}

// shortBlocks returns all lists of at most five numbers from -1 to 4.
func shortBlocks() [][]int {
	var all [][]int
	for many := range 6 {
		for _, l := range sample.Lists(many, 5) {
			for i := range l {
				l[i]--
			}
			all = append(all, l)
		}
	}
	return all
}

func TestK1CopyOfEachFewBlocks(t *testing.T) {
	for _, from := range [][]int{nil, {6}, {0, 1}, {2, 5, 9}, {0, 1, 2, 3}, {1, 3, 6, 7, top}} {
		for _, blocks := range shortBlocks() {
			var l []int
			err := errorOf(from, blocks)
			if err == api.OK {
				l = copied(from, blocks)
			}
			wantCopy(t, from, blocks, l, err)
		}
	}
}

// wrongBlocks are blocks of ten elements with each error, and the error.
func wrongBlocks() map[api.Errno][][]int {
	return map[api.Errno][][]int{
		api.ErrMany: {slices.Repeat([]int{1}, 12), make([]int, 12), slices.Repeat([]int{-1}, 12), slices.Repeat([]int{math.MaxInt}, 100)},
		api.ErrRange: {
			{-1}, {math.MinInt}, {0, 0}, {0, -1}, {5, 0}, {5, 1, 0}, {5, 1, -1}, {5, 5, 0}, {0, 1, 1, 1, 1, 1, 1, 1, 1, 1, 0}, {10, math.MinInt},
			// However great the sum is, a block that may not stand there comes first.
			{11, -1}, {9, 2, 0}, {11, 0}, {math.MaxInt, -1}, {math.MaxInt, math.MaxInt, math.MinInt}, {math.MaxInt, 1, 0},
		},
		api.ErrFull: {
			{11}, {0, 11}, {9, 2}, {10, 1}, {0, 10, 1}, slices.Repeat([]int{1}, 11), {math.MaxInt}, {math.MaxInt, math.MaxInt}, {0, math.MaxInt},
			// The sums of these are too great for an int, and would be small or negative.
			{math.MaxInt, math.MaxInt, 2}, {math.MaxInt, math.MaxInt, 12}, {1, math.MaxInt, math.MaxInt, 1}, {1 << 62, 1 << 62, 1 << 62, 1 << 62}, {1 << 62, 1 << 62},
		},
	}
}

// Whatever is wrong with the list that is copied from comes before what is wrong with the blocks.
func TestK1CopyErrors(t *testing.T) {
	ten := sample.Steps(0, 3, 10)
	for err, all := range wrongBlocks() {
		for _, blocks := range all {
			wantCopy(t, ten, blocks, nil, err)
			for _, w := range sample.WrongLists() {
				wantCopy(t, w.List, blocks, nil, w.Err)
			}
		}
	}
	for _, w := range sample.WrongLists() {
		wantCopy(t, w.List, nil, nil, w.Err)
		wantCopy(t, w.List, []int{0}, nil, w.Err)
	}
}

func TestK1CopyOfAsManyBlocksAsThereMayBe(t *testing.T) {
	for _, many := range []int{0, 1, 2, 10, most - 1, most} {
		from := sample.Steps(5, 7, many)
		blocks := alternating(many + 1)
		wantCopy(t, from, blocks, copied(from, blocks), api.OK)
		wantCopy(t, from, append(blocks, 1), nil, api.ErrMany)
		wantCopy(t, from, append(blocks, -1), nil, api.ErrMany)
		// These are as many, but their sum is greater by 1.
		wantCopy(t, from, slices.Repeat([]int{1}, many+1), nil, api.ErrFull)
	}
}

func TestK3JoinByHand(t *testing.T) {
	for _, c := range []struct{ from, blocks, rest, l []int }{
		{nil, nil, nil, nil},
		{nil, []int{0}, []int{3, 5}, []int{3, 5}},
		{[]int{3, 5}, nil, nil, []int{3, 5}},
		{[]int{3, 5}, []int{0}, nil, nil},
		{[]int{3, 5}, nil, []int{0, 4, 9}, []int{0, 3, 4, 5, 9}},
		// The example of the document.
		{[]int{3, 9, 11}, []int{2}, []int{2, 4, 5, 20}, []int{2, 3, 4, 5, 9, 20}},
		// An element that is left out can be in rest.
		{[]int{3, 9, 11}, []int{2}, []int{11}, []int{3, 9, 11}},
		{[]int{3, 9, 11}, []int{0}, []int{3, 9}, []int{3, 9}},
		{sample.Steps(0, 2, most/2), nil, sample.Steps(1, 2, most/2), sample.Steps(0, 1, most)},
		{sample.Steps(0, 1, most), []int{0}, sample.Steps(0, 1, most), sample.Steps(0, 1, most)},
	} {
		wantJoin(t, c.from, c.blocks, c.rest, c.l, api.OK)
	}
}

func TestK3JoinOfEachFewElements(t *testing.T) {
	for _, from := range sample.Rising(5) {
		for _, blocks := range blocksOf(len(from)) {
			from := copied(from, blocks)
			for _, rest := range sample.Rising(6) {
				both, more := divide(rest, from)
				l, err := slices.Concat(from, more), api.OK
				slices.Sort(l)
				if len(both) > 0 {
					l, err = nil, api.ErrTwice
				}
				wantJoin(t, from, nil, rest, l, err)
			}
		}
	}
}

func TestK3JoinTakesBackWhatIsDivided(t *testing.T) {
	for _, from := range sample.Rising(6) {
		for _, l := range sample.Rising(7) {
			blocks, rest, _ := parts.Blocks(from, l)
			wantJoin(t, from, blocks, rest, l, api.OK)
		}
	}
}

// What is wrong with the lists comes in the order of the arguments, and before numbers that are in both, or too many.
func TestK3JoinErrors(t *testing.T) {
	ten := sample.Steps(0, 3, 10)
	for _, w := range sample.WrongLists() {
		for _, rest := range [][]int{nil, {3}, {3, 3}, make([]int, most+1)} {
			for _, blocks := range [][]int{nil, {-1}, {math.MaxInt}} {
				wantJoin(t, w.List, blocks, rest, nil, w.Err)
			}
		}
		for _, from := range [][]int{nil, ten, sample.Steps(0, 1, most)} {
			wantJoin(t, from, nil, w.List, nil, w.Err)
		}
		for err, all := range wrongBlocks() {
			wantJoin(t, ten, all[0], w.List, nil, err)
		}
	}
	for err, all := range wrongBlocks() {
		for _, blocks := range all {
			wantJoin(t, ten, blocks, []int{0, 3}, nil, err)
		}
	}
}

func TestK3JoinErrTwiceComesBeforeErrMany(t *testing.T) {
	full := sample.Steps(0, 1, most)
	for _, c := range []struct {
		from, blocks, rest []int
		err                api.Errno
	}{
		{[]int{3, 5}, nil, []int{5}, api.ErrTwice},
		{[]int{3, 5}, nil, []int{0, 1, 2, 3}, api.ErrTwice},
		{[]int{top}, nil, []int{0, top}, api.ErrTwice},
		{full, nil, []int{0}, api.ErrTwice},
		{full, nil, []int{most - 1}, api.ErrTwice},
		{full, nil, []int{most - 1, most}, api.ErrTwice},
		{full, nil, []int{most}, api.ErrMany},
		{full, nil, sample.Steps(most, 1, most), api.ErrMany},
		{full, []int{most - 1}, []int{most}, api.OK},
		{full, []int{most - 1}, []int{most - 1}, api.OK},
		{full, []int{most - 1}, []int{most - 1, most}, api.ErrMany},
		{full, []int{most - 1}, []int{most - 2, most}, api.ErrTwice},
		{full, []int{0, most - 1}, sample.Steps(0, 1, most-1), api.OK},
		{full, []int{0, most - 1}, full, api.ErrTwice},
	} {
		if l, err := parts.Join(c.from, c.blocks, c.rest); err != c.err || (err == api.OK) != (len(l) == most) || err != api.OK && len(l) != 0 {
			t.Errorf("Join of %v by %v with %v: %v %d, must be %d", c.from, c.blocks, c.rest, l, err, c.err)
		}
	}
}
