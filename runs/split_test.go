package runs_test

import (
	"math"
	"slices"
	"testing"

	"lampwright/api"
	"lampwright/internal/sample"
	"lampwright/runs"
)

const most, top = api.MaxList, api.MaxNode

// wrongLeasts are none that least may be.
func wrongLeasts() []int { return []int{math.MinInt, -1, 0, 1, most + 1, math.MaxInt} }

func wantSplit(t *testing.T, l []int, least int, r []api.Run, rest []int, err api.Errno) {
	t.Helper()
	gotR, gotRest, gotErr := runs.Split(l, least)
	if !slices.Equal(gotR, r) || !slices.Equal(gotRest, rest) || gotErr != err {
		t.Errorf("Split of %v at %d: %v %v %d, must be %v %v %d", l, least, gotR, gotRest, gotErr, r, rest, err)
	}
}

func TestJ1SplitByHand(t *testing.T) {
	for _, c := range []struct {
		l     []int
		least int
		r     []api.Run
		rest  []int
	}{
		{nil, 2, nil, nil},
		{[]int{5}, 2, nil, []int{5}},
		{[]int{5, 6}, 2, []api.Run{{From: 5, Many: 2}}, nil},
		{[]int{5, 6}, 3, nil, []int{5, 6}},
		{[]int{5, 7}, 2, nil, []int{5, 7}},
		// The list of node 7 in the document's example, and its rest.
		{[]int{2, 3, 4, 5, 9, 20}, 3, []api.Run{{From: 2, Many: 4}}, []int{9, 20}},
		{[]int{2, 4, 5, 20}, 3, nil, []int{2, 4, 5, 20}},
		{[]int{2, 4, 5, 20}, 2, []api.Run{{From: 4, Many: 2}}, []int{2, 20}},
		{[]int{0, 1, 3, 4, 5, 7, 9, 10, 11, 12}, 3, []api.Run{{From: 3, Many: 3}, {From: 9, Many: 4}}, []int{0, 1, 7}},
		{[]int{0, 1, 3, 4, 5, 7, 9, 10, 11, 12}, 4, []api.Run{{From: 9, Many: 4}}, []int{0, 1, 3, 4, 5, 7}},
		{[]int{0, 1, 3, 4, 5, 7, 9, 10, 11, 12}, 5, nil, []int{0, 1, 3, 4, 5, 7, 9, 10, 11, 12}},
		{[]int{0, 1, 3, 4, 5, 7, 9, 10, 11, 12}, most, nil, []int{0, 1, 3, 4, 5, 7, 9, 10, 11, 12}},
		{[]int{0, top - 1, top}, 2, []api.Run{{From: top - 1, Many: 2}}, []int{0}},
		{sample.Steps(0, 1, most), 2, []api.Run{{From: 0, Many: most}}, nil},
		{sample.Steps(0, 1, most), most, []api.Run{{From: 0, Many: most}}, nil},
		{sample.Steps(top-most+1, 1, most), most, []api.Run{{From: top - most + 1, Many: most}}, nil},
		{sample.Steps(1, 1, most-1), most, nil, sample.Steps(1, 1, most-1)},
		{sample.Steps(1, 2, most), 2, nil, sample.Steps(1, 2, most)},
	} {
		wantSplit(t, c.l, c.least, c.r, c.rest, api.OK)
	}
}

func TestJ1SplitOfEachShortList(t *testing.T) {
	for _, l := range sample.Rising(10) {
		for least := 2; least < 12; least++ {
			r, rest := sample.Split(l, least)
			wantSplit(t, l, least, r, rest, api.OK)
		}
	}
}

func TestJ1SplitOfLongLists(t *testing.T) {
	pairs := slices.Concat(sample.Steps(0, 3, most/2), sample.Steps(1, 3, most/2))
	slices.Sort(pairs)
	for _, l := range append(sample.EdgeLists(), pairs) {
		for _, least := range []int{2, 3, most / 2, most/2 + 1, most - 1, most} {
			r, rest := sample.Split(l, least)
			wantSplit(t, l, least, r, rest, api.OK)
		}
	}
}

func TestJ1SplitErrors(t *testing.T) {
	for _, w := range sample.WrongLists() {
		for _, least := range append(wrongLeasts(), 2, 3, most) {
			wantSplit(t, w.List, least, nil, nil, w.Err)
		}
	}
	for _, l := range append(sample.Rising(4), sample.EdgeLists()...) {
		for _, least := range wrongLeasts() {
			wantSplit(t, l, least, nil, nil, api.ErrRange)
		}
	}
}
