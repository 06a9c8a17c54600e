package check

import (
	"math"
	"testing"

	"lampwright/api"
)

func TestRange(t *testing.T) {
	for _, c := range []struct {
		before  api.Errno
		further []bool
		want    api.Errno
	}{
		{api.OK, nil, api.OK},
		{api.OK, []bool{true}, api.OK},
		{api.OK, []bool{true, true, true}, api.OK},
		{api.OK, []bool{false}, api.ErrRange},
		{api.OK, []bool{false, true, true}, api.ErrRange},
		{api.OK, []bool{true, true, false}, api.ErrRange},
		{api.ErrForm, nil, api.ErrForm},
		{api.ErrForm, []bool{true}, api.ErrForm},
		{api.ErrShort, []bool{false, false}, api.ErrShort},
	} {
		if got := Range(c.before, c.further...); got != c.want {
			t.Errorf("Range of %d and %v: %d, must be %d", c.before, c.further, got, c.want)
		}
	}
}

func TestNodeAndK(t *testing.T) {
	for _, c := range []struct {
		n       int
		node, k bool
	}{
		{math.MinInt, false, false},
		{-1, false, false},
		{0, true, false},
		{1, true, true},
		{16, true, true},
		{17, true, false},
		{api.MaxNode, true, false},
		{api.MaxNode + 1, false, false},
		{math.MaxInt, false, false},
	} {
		if Node(c.n) != c.node || K(c.n) != c.k {
			t.Errorf("Node and K of %d: %t %t, must be %t %t", c.n, Node(c.n), K(c.n), c.node, c.k)
		}
	}
}

func TestLeast(t *testing.T) {
	for n, want := range map[int]bool{math.MinInt: false, -1: false, 0: false, 1: false, 2: true, 3: true, api.MaxList: true, api.MaxList + 1: false, math.MaxInt: false} {
		if Least(n) != want {
			t.Errorf("Least of %d: %t, must be %t", n, !want, want)
		}
	}
}

func TestSameBits(t *testing.T) {
	b := api.Bits{Len: 9, Bytes: []byte{5, 128}}
	if !SameBits(b, api.Bits{Len: 9, Bytes: []byte{5, 128}}) || !SameBits(api.Bits{}, api.Bits{Bytes: []byte{}}) {
		t.Error("SameBits tells bits from themselves")
	}
	for _, other := range []api.Bits{{}, {Len: 9}, {Len: 10, Bytes: b.Bytes}, {Len: 8, Bytes: b.Bytes[:1]}, {Len: 9, Bytes: []byte{5, 0}}, {Len: 9, Bytes: []byte{4, 128}}, {Len: 9, Bytes: []byte{5, 128, 0}}} {
		if SameBits(b, other) || SameBits(other, b) {
			t.Errorf("SameBits does not tell %v from %v", other, b)
		}
	}
}

func TestRisingAndNotDecreasing(t *testing.T) {
	for _, c := range []struct {
		list                  []int
		rising, notDecreasing api.Errno
	}{
		{nil, api.OK, api.OK},
		{[]int{0}, api.OK, api.OK},
		{[]int{0, 1, 5, 9}, api.OK, api.OK},
		{[]int{0, 0}, api.ErrState, api.OK},
		{[]int{0, 1, 5, 5, 5, 9}, api.ErrState, api.OK},
		{[]int{1, 0}, api.ErrState, api.ErrState},
		{[]int{5, 4}, api.ErrState, api.ErrState},
		{[]int{-1}, api.ErrRange, api.ErrRange},
		{[]int{4, 10}, api.ErrRange, api.ErrRange},
		// The first element with an error determines it, and of its errors it is ErrRange.
		{[]int{5, 4, 10}, api.ErrState, api.ErrState},
		{[]int{5, 5, 10}, api.ErrState, api.ErrRange},
		{[]int{5, 10, 4}, api.ErrRange, api.ErrRange},
		{[]int{10, 10}, api.ErrRange, api.ErrRange},
		{[]int{5, -1}, api.ErrRange, api.ErrRange},
		{[]int{math.MinInt, math.MaxInt}, api.ErrRange, api.ErrRange},
	} {
		may := func(n int) bool { return 0 <= n && n < 10 }
		if got := Rising(c.list, may); got != c.rising {
			t.Errorf("Rising of %d: %d, must be %d", c.list, got, c.rising)
		}
		if got := NotDecreasing(c.list, may); got != c.notDecreasing {
			t.Errorf("NotDecreasing of %d: %d, must be %d", c.list, got, c.notDecreasing)
		}
	}
}

func TestEach(t *testing.T) {
	for _, c := range []struct {
		list []api.Errno
		want api.Errno
	}{
		{nil, api.OK},
		{[]api.Errno{}, api.OK},
		{[]api.Errno{api.OK, api.OK}, api.OK},
		{[]api.Errno{api.ErrMany}, api.ErrMany},
		{[]api.Errno{api.OK, api.OK, api.ErrShort}, api.ErrShort},
		{[]api.Errno{api.OK, api.ErrState, api.ErrForm}, api.ErrState},
	} {
		if got := Each(c.list, func(err api.Errno) api.Errno { return err }); got != c.want {
			t.Errorf("Each of %d: %d, must be %d", c.list, got, c.want)
		}
	}
}
