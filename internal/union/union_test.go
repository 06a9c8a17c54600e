package union_test

import (
	"slices"
	"testing"

	"lampwright/api"
	"lampwright/internal/sample"
	"lampwright/internal/union"
)

const most = api.MaxList

func TestOf(t *testing.T) {
	for _, c := range []struct {
		a, b, l []int
		err     api.Errno
	}{
		{nil, nil, nil, api.OK},
		{nil, []int{3}, []int{3}, api.OK},
		{[]int{3, 9}, []int{}, []int{3, 9}, api.OK},
		{[]int{3, 9}, []int{0, 4, 10}, []int{0, 3, 4, 9, 10}, api.OK},
		{[]int{0, 4, 10}, []int{3, 9}, []int{0, 3, 4, 9, 10}, api.OK},
		{[]int{0, 4, 10}, []int{10}, nil, api.ErrTwice},
		{[]int{0}, []int{0, 4, 10}, nil, api.ErrTwice},
		{sample.Steps(0, 2, most/2), sample.Steps(1, 2, most/2), sample.Steps(0, 1, most), api.OK},
		{sample.Steps(0, 1, most), []int{most}, nil, api.ErrMany},
		{sample.Steps(0, 1, most+1), nil, nil, api.ErrMany},
		{sample.Steps(0, 1, most), []int{0}, nil, api.ErrTwice},
		{sample.Steps(0, 1, 10*most), []int{most}, nil, api.ErrTwice},
	} {
		if l, err := union.Of(c.a, c.b); !slices.Equal(l, c.l) || err != c.err {
			t.Errorf("Of %v and %v: %v %d, must be %v %d", c.a, c.b, l, err, c.l, c.err)
		}
	}
}

func TestOfNeitherChangesNorSharesItsLists(t *testing.T) {
	for _, list := range [][]int{nil, {5}, {3, 9}} {
		a, b := sample.Around(list, 1), sample.Around([]int{4, 8}, 1)
		for range 2 {
			l, _ := union.Of(a.List, b.List)
			sample.Flip(l)
			l, _ = union.Of(a.List, nil)
			sample.Flip(l)
			l, _ = union.Of(nil, a.List)
			sample.Flip(l)
		}
		if a.Changed() || b.Changed() {
			t.Errorf("%v is changed", list)
		}
	}
}
