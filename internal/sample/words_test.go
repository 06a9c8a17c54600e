package sample

import (
	"slices"
	"testing"
)

func TestWords(t *testing.T) {
	for _, c := range []struct {
		l    []int
		want []string
	}{
		{nil, nil},
		{[]int{0}, []string{""}},
		{[]int{24}, []string{"000000000000000000000000"}},
		{[]int{2, 0, 1, 3, 3}, []string{"10", "", "0", "110", "111"}},
		{[]int{4, 2, 2}, []string{"1000", "00", "01"}},
	} {
		if got := Words(c.l); !slices.Equal(got, c.want) {
			t.Errorf("Words of %v: %q", c.l, got)
		}
	}
}

func TestLists(t *testing.T) {
	got := Lists(2, 1)
	want := [][]int{{0, 0}, {0, 1}, {1, 0}, {1, 1}}
	if !slices.EqualFunc(got, want, slices.Equal[[]int]) {
		t.Errorf("Lists: %v", got)
	}
	if got := Lists(3, 4); len(got) != 125 {
		t.Errorf("Lists: %d", len(got))
	}
	Flip(got[0])
	if !slices.Equal(got[1], want[1]) {
		t.Error("lists share memory")
	}
}
