package sample

import (
	"slices"
	"testing"

	"lampwright/api"
)

func TestRising(t *testing.T) {
	got := Rising(3)
	want := [][]int{nil, {0}, {1}, {0, 1}, {2}, {0, 2}, {1, 2}, {0, 1, 2}}
	if !slices.EqualFunc(got, want, slices.Equal[[]int]) {
		t.Errorf("Rising: %v", got)
	}
	if len(Rising(10)) != 1024 {
		t.Error("Rising does not return all lists")
	}
}

func TestRisingListsShareNoMemory(t *testing.T) {
	for i := range Rising(4) {
		all := Rising(4)
		Flip(all[i])
		for j, l := range Rising(4) {
			if j != i && !slices.Equal(all[j], l) {
				t.Errorf("the lists %d and %d share memory", i, j)
			}
		}
	}
}

func TestSteps(t *testing.T) {
	if !slices.Equal(Steps(5, -2, 4), []int{5, 3, 1, -1}) || len(Steps(1, 1, 0)) != 0 {
		t.Error("Steps does not return the numbers")
	}
}

func TestDistancesAndGaps(t *testing.T) {
	if !slices.Equal(Distances([]int{2, 4, 5, 20}, 7), []uint64{9, 1, 0, 14}) || !slices.Equal(Distances([]int{7}, 5), []uint64{4}) {
		t.Error("Distances does not return the gaps")
	}
	if Gaps(nil, 7, 1) != "" || Gaps([]int{2, 4, 5, 20}, 7, 3) != "0100010"+"1010"+"100"+"0100111" {
		t.Error("Gaps does not spell the gaps")
	}
}

func TestSplit(t *testing.T) {
	r, rest := Split([]int{2, 3, 4, 5, 9, 20, 21, 30, 31, 32}, 3)
	if !slices.Equal(r, []api.Run{{From: 2, Many: 4}, {From: 30, Many: 3}}) || !slices.Equal(rest, []int{9, 20, 21}) {
		t.Errorf("Split: %v %v", r, rest)
	}
}

// rises reports whether all elements are greater than those before, and from 0 to MaxNode.
func rises(l []int) bool {
	sorted := slices.Clone(l)
	slices.Sort(sorted)
	sorted = slices.Compact(sorted)
	return slices.Equal(l, sorted) && (len(l) == 0 || l[0] >= 0 && l[len(l)-1] <= api.MaxNode)
}

func TestEdgeLists(t *testing.T) {
	most := 0
	for _, l := range EdgeLists() {
		most = max(most, len(l))
		if !rises(l) {
			t.Errorf("%v does not rise", l)
		}
	}
	if most != api.MaxList {
		t.Errorf("the longest list has %d elements", most)
	}
}

func TestWrongLists(t *testing.T) {
	for _, w := range WrongLists() {
		if (w.Err == api.ErrMany) != (len(w.List) > api.MaxList) {
			t.Errorf("%d elements have the error %d", len(w.List), w.Err)
		}
		if w.Err != api.ErrMany && rises(w.List) {
			t.Errorf("%v rises", w.List)
		}
	}
}
