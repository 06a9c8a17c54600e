package succ_test

import (
	"fmt"
	"math"
	"slices"
	"testing"

	"lampwright/api"
	"lampwright/internal/sample"
	"lampwright/succ"
)

const most, top = api.MaxList, api.MaxNode

// hows are ways of encoding, some for all that is written and read, and those at the edges.
func hows() []api.How {
	var all []api.How
	for _, back := range []int{0, 1, api.MaxBack} {
		for _, least := range []int{0, 2, 3, most} {
			for _, k := range []int{1, 2, 3, 16} {
				all = append(all, api.How{Back: back, Least: least, K: k})
			}
		}
	}
	return all
}

// wrongHows are ways of encoding that are not right.
func wrongHows() []api.How {
	all := []api.How{{}, {Back: 8, Least: 1, K: 17}, {Back: -1, Least: -1, K: -1}}
	for _, back := range []int{math.MinInt, -1, 8, 9, math.MaxInt} {
		all = append(all, api.How{Back: back, Least: 2, K: 1}, api.How{Back: back, K: 16})
	}
	for _, least := range []int{math.MinInt, -2, -1, 1, most + 1, math.MaxInt} {
		all = append(all, api.How{Least: least, K: 1}, api.How{Back: 7, Least: least, K: 16})
	}
	for _, k := range []int{math.MinInt, -1, 0, 17, 18, math.MaxInt} {
		all = append(all, api.How{K: k}, api.How{Back: 7, Least: most, K: k})
	}
	return all
}

// wrongNodes are numbers that no node has.
func wrongNodes() []int { return []int{math.MinInt, -top, -1, top + 1, 2 * top, math.MaxInt} }

func wantWrite(t *testing.T, node int, l, from []int, h api.How, text string, wantErr api.Errno) {
	t.Helper()
	got, err := succ.Write(node, l, from, h)
	sample.WantBits(t, fmt.Sprint("Write of ", l, " by ", from, ", node ", node, ", ", h), got, err, text, wantErr)
}

func wantRead(t *testing.T, b api.Bits, at, node int, from []int, h api.How, l []int, after int, err api.Errno) {
	t.Helper()
	gotL, gotAfter, gotErr := succ.Read(b, at, node, from, h)
	if !slices.Equal(gotL, l) || gotAfter != after || gotErr != err {
		t.Errorf("Read of %d bits at %d by %v, node %d, %v: %v %d %d, must be %v %d %d", b.Len, at, from, node, h, gotL, gotAfter, gotErr, l, after, err)
	}
}

func TestL1Check(t *testing.T) {
	for back := -3; back < 12; back++ {
		for _, least := range []int{math.MinInt, -2, -1, 0, 1, 2, 3, most - 1, most, most + 1, math.MaxInt} {
			for k := -3; k < 22; k++ {
				want := api.ErrRange
				if 0 <= back && back <= 7 && (least == 0 || 2 <= least && least <= 300) && 1 <= k && k <= 16 {
					want = api.OK
				}
				if err := succ.Check(api.How{Back: back, Least: least, K: k}); err != want {
					t.Errorf("Check of %d %d %d: %d, must be %d", back, least, k, err, want)
				}
			}
		}
	}
	for _, h := range hows() {
		if err := succ.Check(h); err != api.OK {
			t.Errorf("Check of %v: %d", h, err)
		}
	}
	for _, h := range wrongHows() {
		if err := succ.Check(h); err != api.ErrRange {
			t.Errorf("Check of %v: %d", h, err)
		}
	}
}
