package succ_test

import (
	"fmt"
	"math"
	"slices"
	"testing"

	"lampwright/api"
	"lampwright/internal/sample"
	"lampwright/succ"
)

const most, top = api.MaxList, api.MaxNode

// wrongNodes are numbers that no node has.
func wrongNodes() []int { return []int{math.MinInt, -top, -1, top + 1, 2 * top, math.MaxInt} }

func wantWrite(t *testing.T, node int, l, from []int, h api.How, text string, wantErr api.Errno) {
	t.Helper()
	got, err := succ.Write(node, l, from, h)
	sample.WantBits(t, fmt.Sprint("Write of ", l, " by ", from, ", node ", node, ", ", h), got, err, text, wantErr)
}

func wantRead(t *testing.T, b api.Bits, at, node int, from []int, h api.How, l []int, after int, err api.Errno) {
	t.Helper()
	gotL, gotAfter, gotErr := succ.Read(b, at, node, from, h)
	if !slices.Equal(gotL, l) || gotAfter != after || gotErr != err {
		t.Errorf("Read of %d bits at %d by %v, node %d, %v: %v %d %d, must be %v %d %d", b.Len, at, from, node, h, gotL, gotAfter, gotErr, l, after, err)
	}
}

func TestL1Check(t *testing.T) {
	for back := -3; back < 12; back++ {
		for _, least := range []int{math.MinInt, -2, -1, 0, 1, 2, 3, most - 1, most, most + 1, math.MaxInt} {
			for k := -3; k < 22; k++ {
				want := api.ErrRange
				if 0 <= back && back <= 7 && (least == 0 || 2 <= least && least <= 300) && 1 <= k && k <= 16 {
					want = api.OK
				}
				if err := succ.Check(api.How{Back: back, Least: least, K: k}); err != want {
					t.Errorf("Check of %d %d %d: %d, must be %d", back, least, k, err, want)
				}
			}
		}
	}
	for _, h := range sample.Hows() {
		if err := succ.Check(h); err != api.OK {
			t.Errorf("Check of %v: %d", h, err)
		}
	}
	for _, h := range sample.WrongHows() {
		if err := succ.Check(h); err != api.ErrRange {
			t.Errorf("Check of %v: %d", h, err)
		}
	}
}
