package runs_test

import (
	"slices"
	"testing"

	"lampwright/api"
	"lampwright/internal/sample"
	"lampwright/runs"
)

// oddRuns are right and wrong lists of runs.
func oddRuns() [][]api.Run {
	all := [][]api.Run{nil, {}, {{From: 3, Many: 2}, {From: 6, Many: 1}}, repeat(0, 2, most, 1), repeat(0, 400, most, most)}
	for _, w := range allWrongRuns() {
		all = append(all, w.r)
	}
	return all
}

// flipRuns changes each run of a result, and the memory behind its length.
func flipRuns(r []api.Run) {
	all := r[:cap(r)]
	for i, run := range all {
		all[i] = api.Run{From: ^run.From, Many: ^run.Many}
	}
}

func TestP1ReturnsForAllArguments(t *testing.T) {
	for _, l := range sample.OddLists() {
		for _, least := range append(wrongLeasts(), 2, 3, most) {
			r, rest, err := runs.Split(l, least)
			if err != api.OK && len(r)+len(rest) != 0 {
				t.Errorf("Split: %v %v beside the error %d", r, rest, err)
			}
		}
		for _, r := range oddRuns() {
			merged, err := runs.Merge(r, l)
			if err != api.OK && len(merged) != 0 {
				t.Errorf("Merge: %v beside the error %d", merged, err)
			}
		}
	}
	for _, r := range oddRuns() {
		if many, err := runs.Count(r); err != api.OK && many != 0 {
			t.Errorf("Count: %d beside the error %d", many, err)
		}
	}
}

// A result that shared memory with an argument would carry the changes into it.
func TestP2ArgumentsStayAsTheyAre(t *testing.T) {
	for _, list := range sample.OddLists() {
		m := sample.Around(list, 1)
		for _, least := range []int{2, 3, most} {
			r, rest, _ := runs.Split(m.List, least)
			flipRuns(r)
			sample.Flip(rest)
		}
		for _, r := range [][]api.Run{nil, {}, {{From: 30, Many: 2}}} {
			l, _ := runs.Merge(r, m.List)
			sample.Flip(l)
		}
		if m.Changed() {
			t.Errorf("the list %v is changed", list)
		}
	}
	for _, r := range oddRuns() {
		m := sample.Around(r, api.Run{From: 8, Many: 1})
		for _, rest := range [][]int{nil, {}, {2, 5}} {
			l, _ := runs.Merge(m.List, rest)
			sample.Flip(l)
		}
		runs.Count(m.List)
		if m.Changed() {
			t.Errorf("the runs %v are changed", r)
		}
	}
}

func TestP2EmptyListsCanBeNilOrNot(t *testing.T) {
	for _, l := range [][]int{nil, {}} {
		wantSplit(t, l, 2, nil, nil, api.OK)
		for _, r := range [][]api.Run{nil, {}} {
			wantMerge(t, r, l, nil, api.OK)
			wantMerge(t, r, []int{5}, []int{5}, api.OK)
			wantCount(t, r, 0, api.OK)
		}
		wantMerge(t, []api.Run{{From: 5, Many: 1}}, l, []int{5}, api.OK)
	}
}

func TestP3EachCallIsByItself(t *testing.T) {
	list, long, short := []int{2, 3, 4, 5, 9, 20}, []api.Run{{From: 2, Many: 4}}, []int{9, 20}
	for range 3 {
		wantSplit(t, list, 3, long, short, api.OK)
		wantMerge(t, long, short, list, api.OK)
		r, rest, _ := runs.Split(list, 3)
		l, _ := runs.Merge(long, short)
		flipRuns(r)
		sample.Flip(rest)
		sample.Flip(l)
		wantSplit(t, list, 3, long, short, api.OK)
		wantMerge(t, long, short, list, api.OK)
		wantSplit(t, list, 1, nil, nil, api.ErrRange)
		wantMerge(t, long, list, nil, api.ErrTwice)
		wantCount(t, long, 4, api.OK)
	}
}

func TestP4HoldsForMuch(t *testing.T) {
	l := sample.Steps(0, 1, 1<<22)
	if r, rest, err := runs.Split(l, 2); len(r)+len(rest) != 0 || err != api.ErrMany {
		t.Errorf("Split of a long list: %d %d %d", len(r), len(rest), err)
	}
	if merged, err := runs.Merge(nil, l); len(merged) != 0 || err != api.ErrMany {
		t.Errorf("Merge of a long list: %d %d", len(merged), err)
	}
	long := slices.Repeat([]api.Run{{From: 1, Many: 1}}, 1<<22)
	if merged, err := runs.Merge(long, nil); len(merged) != 0 || err != api.ErrMany {
		t.Errorf("Merge of many runs: %d %d", len(merged), err)
	}
	if many, err := runs.Count(long); many != 0 || err != api.ErrMany {
		t.Errorf("Count of many runs: %d %d", many, err)
	}
}
