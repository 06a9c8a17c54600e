package gaps_test

import (
	"math"
	"slices"
	"testing"

	"lampwright/api"
	"lampwright/gaps"
	"lampwright/internal/sample"
)

const top = api.MaxNode

// wrongPlaces are none that a list can be relative to.
func wrongPlaces() []int { return []int{math.MinInt, -top, -1, top + 1, 2 * top, math.MaxInt} }

// places are some that a list can be relative to, with the first and the last one.
func places() []int { return []int{0, 1, 2, 5, 9, 1000, top / 2, top - 1, top} }

// longGaps are those of more elements than a list can have.
func longGaps() [][]uint64 {
	return [][]uint64{make([]uint64, api.MaxList+1), slices.Repeat([]uint64{math.MaxUint64}, api.MaxList+1), make([]uint64, 10*api.MaxList)}
}

func wantGaps(t *testing.T, l []int, at int, g []uint64, err api.Errno) {
	t.Helper()
	if gotG, gotErr := gaps.Gaps(l, at); !slices.Equal(gotG, g) || gotErr != err {
		t.Errorf("Gaps of %v relative to %d: %v %d, must be %v %d", l, at, gotG, gotErr, g, err)
	}
}

func wantBack(t *testing.T, g []uint64, at int, l []int, err api.Errno) {
	t.Helper()
	if gotL, gotErr := gaps.Back(g, at); !slices.Equal(gotL, l) || gotErr != err {
		t.Errorf("Back of %v relative to %d: %v %d, must be %v %d", g, at, gotL, gotErr, l, err)
	}
}

func TestI1CheckTakesIncreasingLists(t *testing.T) {
	for _, l := range append(sample.Rising(8), sample.EdgeLists()...) {
		if err := gaps.Check(l); err != api.OK {
			t.Errorf("Check of %v: %d", l, err)
		}
	}
	if err := gaps.Check([]int{}); err != api.OK {
		t.Errorf("Check of an empty list: %d", err)
	}
}

func TestI1CheckRefusesOtherLists(t *testing.T) {
	for _, w := range sample.WrongLists() {
		if err := gaps.Check(w.List); err != w.Err {
			t.Errorf("Check of %v: %d, must be %d", w.List, err, w.Err)
		}
	}
}

func TestI1CheckOfEachShortList(t *testing.T) {
	for many := range 5 {
		for _, l := range sample.Lists(many, 4) {
			want := api.OK
			for i := 1; i < many; i++ {
				if l[i] <= l[i-1] {
					want = api.ErrState
				}
			}
			if err := gaps.Check(l); err != want {
				t.Errorf("Check of %v: %d, must be %d", l, err, want)
			}
		}
	}
}

func TestI2GapsByHand(t *testing.T) {
	for _, c := range []struct {
		l  []int
		at int
		g  []uint64
	}{
		{nil, 0, nil},
		{nil, top, nil},
		{[]int{7}, 7, []uint64{0}},
		{[]int{6}, 7, []uint64{1}},
		{[]int{8}, 7, []uint64{2}},
		{[]int{5}, 7, []uint64{3}},
		{[]int{9}, 7, []uint64{4}},
		// The example of the document: the rest of the list of node 7.
		{[]int{2, 4, 5, 20}, 7, []uint64{9, 1, 0, 14}},
		{[]int{0, 1, 2, 3}, 0, []uint64{0, 0, 0, 0}},
		{[]int{10, 12, 15}, 3, []uint64{14, 1, 2}},
		{[]int{0, top}, 0, []uint64{0, top - 1}},
		{[]int{0, top}, top, []uint64{2*top - 1, top - 1}},
		{[]int{top}, 0, []uint64{2 * top}},
		{[]int{top - 1, top}, top, []uint64{1, 0}},
	} {
		wantGaps(t, c.l, c.at, c.g, api.OK)
		wantBack(t, c.g, c.at, c.l, api.OK)
	}
}

func TestI2GapsAndBack(t *testing.T) {
	for _, l := range append(sample.Rising(9), sample.EdgeLists()...) {
		for _, at := range places() {
			g := sample.Distances(l, at)
			wantGaps(t, l, at, g, api.OK)
			wantBack(t, g, at, l, api.OK)
		}
	}
}

func TestI2GapsErrors(t *testing.T) {
	for _, w := range sample.WrongLists() {
		for _, at := range append(places(), wrongPlaces()...) {
			wantGaps(t, w.List, at, nil, w.Err)
		}
	}
	for _, l := range append(sample.Rising(3), sample.EdgeLists()...) {
		for _, at := range wrongPlaces() {
			wantGaps(t, l, at, nil, api.ErrRange)
		}
	}
}

// Of all short lists of small numbers, those of the elements up to the last one from 0 on are gaps.
func TestI2BackOfEachShortListOfGaps(t *testing.T) {
	for many := range 5 {
		for _, numbers := range sample.Lists(many, 6) {
			var g []uint64
			for _, n := range numbers {
				g = append(g, uint64(n))
			}
			for at := range 6 {
				l, err := follow(g, at)
				wantBack(t, g, at, l, err)
			}
		}
	}
}

// follow goes from element to element, where small gaps cannot lead above MaxNode.
func follow(g []uint64, at int) ([]int, api.Errno) {
	first := []int{0, -1, 1, -2, 2, -3, 3}
	var l []int
	n := at
	for i, gap := range g {
		if i == 0 {
			n += first[gap]
		} else {
			n += int(gap) + 1
		}
		if n < 0 {
			return nil, api.ErrRange
		}
		l = append(l, n)
	}
	return l, api.OK
}

func TestI2BackAtTheEdges(t *testing.T) {
	for _, c := range []struct {
		g   []uint64
		at  int
		l   []int
		err api.Errno
	}{
		{[]uint64{1}, 0, nil, api.ErrRange},
		{[]uint64{1}, 1, []int{0}, api.OK},
		{[]uint64{3}, 1, nil, api.ErrRange},
		{[]uint64{2}, top, nil, api.ErrRange},
		{[]uint64{2}, top - 1, []int{top}, api.OK},
		{[]uint64{2 * top}, 0, []int{top}, api.OK},
		{[]uint64{2 * top}, 1, nil, api.ErrRange},
		{[]uint64{2*top - 1}, top, []int{0}, api.OK},
		{[]uint64{2*top - 1}, top - 1, nil, api.ErrRange},
		{[]uint64{2*top + 1}, top, nil, api.ErrRange},
		{[]uint64{2*top + 2}, 0, nil, api.ErrRange},
		{[]uint64{0, top - 1}, 0, []int{0, top}, api.OK},
		{[]uint64{0, top}, 0, nil, api.ErrRange},
		{[]uint64{0, 0}, top, nil, api.ErrRange},
		{[]uint64{0, 0}, top - 1, []int{top - 1, top}, api.OK},
		{[]uint64{0, 5, top - 8}, 1, []int{1, 7, top}, api.OK},
		{[]uint64{0, 5, top - 7}, 1, nil, api.ErrRange},
		{make([]uint64, api.MaxList), 0, sample.Steps(0, 1, api.MaxList), api.OK},
		{make([]uint64, api.MaxList), top - api.MaxList + 1, sample.Steps(top-api.MaxList+1, 1, api.MaxList), api.OK},
		{make([]uint64, api.MaxList), top - api.MaxList + 2, nil, api.ErrRange},
	} {
		wantBack(t, c.g, c.at, c.l, c.err)
	}
}

// A gap that is not one of a list must not lead back into it, wherever its sum ends.
func TestI2BackOfGreatGaps(t *testing.T) {
	great := []uint64{2*top + 1, 1 << 31, 1 << 32, 1<<32 + 2, math.MaxInt64, 1 << 63, 1<<63 + 1, math.MaxUint64}
	for back := range uint64(20) {
		great = append(great, math.MaxUint64-back, math.MaxInt64-back, 1<<63+back)
	}
	for _, at := range places() {
		for _, gap := range great {
			wantBack(t, []uint64{gap}, at, nil, api.ErrRange)
			wantBack(t, []uint64{0, gap}, at, nil, api.ErrRange)
			wantBack(t, []uint64{0, 2, gap, 2}, 0, nil, api.ErrRange)
		}
	}
}

func TestI2BackErrors(t *testing.T) {
	for _, g := range longGaps() {
		for _, at := range append(places(), wrongPlaces()...) {
			wantBack(t, g, at, nil, api.ErrMany)
		}
	}
	for _, at := range wrongPlaces() {
		for _, g := range [][]uint64{nil, {0}, {1}, {math.MaxUint64}, {2 * top}, make([]uint64, api.MaxList)} {
			wantBack(t, g, at, nil, api.ErrRange)
		}
	}
}
