package fano_test

import (
	"math"
	"slices"
	"testing"

	"lampwright/api"
	"lampwright/fano"
	"lampwright/internal/sample"
)

const most, greatest = api.MaxList, api.MaxNode

// wantWritten fails unless the list is written as f.
func wantWritten(t *testing.T, l []int, top int, f api.Fano) {
	t.Helper()
	if got, err := fano.Write(l, top); !sample.SameFano(got, f) || err != api.OK {
		t.Errorf("Write of %v, %d: %v %d, must be %v", l, top, got, err, f)
	}
}

// wantNotWritten fails unless this is the error for the list.
func wantNotWritten(t *testing.T, l []int, top int, err api.Errno) {
	t.Helper()
	if got, gotErr := fano.Write(l, top); !sample.SameFano(got, api.Fano{}) || gotErr != err {
		t.Errorf("Write of %d elements, %d: %v %d, must be %d", len(l), top, got, gotErr, err)
	}
}

// wantRead fails unless f is read as the list, or refused with an error.
func wantRead(t *testing.T, f api.Fano, l []int, err api.Errno) {
	t.Helper()
	if got, gotErr := fano.Read(f); !slices.Equal(got, l) || gotErr != err {
		t.Errorf("Read of %v: %v %d, must be %v %d", f, got, gotErr, l, err)
	}
	if got := fano.Check(f); got != err {
		t.Errorf("Check of %v: %d, must be %d", f, got, err)
	}
}

func wantGet(t *testing.T, f api.Fano, i, n int, err api.Errno) {
	t.Helper()
	if got, gotErr := fano.Get(f, i); got != n || gotErr != err {
		t.Errorf("Get of %v, %d: %d %d, must be %d %d", f, i, got, gotErr, n, err)
	}
}

func wantNext(t *testing.T, f api.Fano, n, i, element int, err api.Errno) {
	t.Helper()
	if gotI, got, gotErr := fano.Next(f, n); gotI != i || got != element || gotErr != err {
		t.Errorf("Next of %v, %d: %d %d %d, must be %d %d %d", f, n, gotI, got, gotErr, i, element, err)
	}
}

// wantBoth fails unless what P5 says of the list is written and read.
func wantBoth(t *testing.T, l []int, top int) {
	t.Helper()
	f := sample.Fano(l, top)
	wantWritten(t, l, top, f)
	wantRead(t, f, l, api.OK)
}

// notDecreasing returns all lists of at most many elements from 0 to top in which none is less than the one before.
func notDecreasing(many, top int) [][]int {
	var all [][]int
	for n := range many + 1 {
		all = append(all, slices.DeleteFunc(sample.Lists(n, top), func(l []int) bool { return !slices.IsSorted(l) })...)
	}
	return all
}

// edgeLists are lists with as many elements, and elements as great, as there may be, and others near to them.
func edgeLists() [][]int {
	zeros, tops := make([]int, most), slices.Repeat([]int{greatest}, most)
	return append(sample.EdgeLists(),
		zeros[:2],
		zeros[1:],
		zeros,
		tops[:2],
		tops[1:],
		tops,
		slices.Concat(zeros[:most/2], tops[:most/2]),
		slices.Concat(zeros[1:], tops[:1]),
		slices.Concat(zeros[:1], tops[1:]),
		slices.Sorted(slices.Values(slices.Repeat(sample.Steps(5, 3000, most/4), 4))),
	)
}

func TestP5ByHand(t *testing.T) {
	for _, c := range []struct {
		l         []int
		top       int
		width     int
		low, high string
	}{
		{nil, 0, 0, "", "0"},
		{nil, 4, 0, "", "00000"},
		{[]int{0}, 0, 0, "", "10"},
		{[]int{0}, 1, 1, "0", "10"},
		{[]int{1}, 1, 1, "1", "10"},
		{[]int{2}, 2, 1, "0", "010"},
		{[]int{0, 0, 0}, 0, 0, "", "1110"},
		{[]int{0, 1, 1}, 1, 0, "", "10110"},
		{[]int{1, 1, 5, 12}, 15, 2, "01" + "01" + "01" + "00", "110" + "10" + "0" + "10"},
		{[]int{1, 1, 5, 12}, 14, 1, "1" + "1" + "1" + "0", "110" + "0" + "10" + "0" + "0" + "0" + "10" + "0"},
		{[]int{1, 1, 5, 12}, 16, 2, "01" + "01" + "01" + "00", "110" + "10" + "0" + "10" + "0"},
		{[]int{15, 15, 15, 15}, 15, 2, "11" + "11" + "11" + "11", "0" + "0" + "0" + "11110"},
		{[]int{0, greatest}, greatest, 19, "0000000000000000000" + "0000000000000000000", "10" + "0" + "10"},
	} {
		f := api.Fano{N: len(c.l), Top: c.top, Width: c.width, Low: sample.Bits(c.low), High: sample.Bits(c.high)}
		wantWritten(t, c.l, c.top, f)
		wantRead(t, f, c.l, api.OK)
	}
}

func TestP5P6P7OfEachSmallList(t *testing.T) {
	for top := range 9 {
		for _, l := range notDecreasing(4, top) {
			wantBoth(t, l, top)
			wantEachFound(t, l, top)
		}
	}
}

func TestP5P6P7OfEdgeLists(t *testing.T) {
	for _, l := range edgeLists() {
		wantBoth(t, l, greatest)
		wantEachFound(t, l, greatest)
		last := l[len(l)-1]
		wantBoth(t, l, last)
		wantBoth(t, l, min(last+1, greatest))
	}
}

// Width is greater by one as soon as N * 2^w is top + 1.
func TestP5Width(t *testing.T) {
	for many := 1; many <= most; many++ {
		for w := 0; many<<w <= greatest+1; w++ {
			wantWidth(t, many, many<<w-1, w)
			if top := many<<w - 2; top >= 0 {
				wantWidth(t, many, top, max(0, w-1))
			}
		}
	}
}

func wantWidth(t *testing.T, many, top, width int) {
	t.Helper()
	if f, err := fano.Write(make([]int, many), top); f.Width != width || f.N != many || f.Top != top || err != api.OK {
		t.Errorf("Write of %d elements, %d: Width %d %d, must be %d", many, top, f.Width, err, width)
	}
}

// Without elements, High has a bit for each number up to top.
func TestP5ErrFullAtTheEdge(t *testing.T) {
	for _, top := range []int{0, 1, 1000, api.MaxLen - 2, api.MaxLen - 1} {
		wantBoth(t, nil, top)
		wantNext(t, sample.Fano(nil, top), 0, 0, 0, api.ErrNone)
	}
	for _, top := range []int{api.MaxLen, api.MaxLen + 1, greatest - 1, greatest} {
		wantNotWritten(t, nil, top, api.ErrFull)
		wantNotWritten(t, []int{}, top, api.ErrFull)
		wantBoth(t, []int{0}, top)
		wantBoth(t, []int{top}, top)
	}
}

func TestP5Errors(t *testing.T) {
	for _, c := range []struct {
		l   []int
		top int
		err api.Errno
	}{
		{[]int{5}, 4, api.ErrRange},
		{[]int{-1}, 4, api.ErrRange},
		{[]int{3, 2}, 4, api.ErrState},
		{[]int{4, 4, 3}, 4, api.ErrState},
		{[]int{0, 4, 5}, 4, api.ErrRange},
		{[]int{greatest + 1}, greatest, api.ErrRange},
		{[]int{0, math.MaxInt}, greatest, api.ErrRange},
		{[]int{math.MinInt, 0}, greatest, api.ErrRange},
		{make([]int, most+1), greatest, api.ErrMany},
		{make([]int, most+1), 0, api.ErrMany},
		// The first element with an error determines it, and of its errors it is ErrRange.
		{[]int{3, 2, 5}, 4, api.ErrState},
		{[]int{3, 5, 2}, 4, api.ErrRange},
		{[]int{3, -1}, 4, api.ErrRange},
		{[]int{5, 4}, 4, api.ErrRange},
		// The error that P5 mentions first.
		{slices.Repeat([]int{-1}, most+1), 4, api.ErrMany},
		{sample.Steps(most, -1, most+1), greatest, api.ErrMany},
	} {
		wantNotWritten(t, c.l, c.top, c.err)
	}
	for _, top := range []int{math.MinInt, -1, greatest + 1, math.MaxInt} {
		for _, l := range [][]int{nil, {0}, {-1}, {1, 0}, make([]int, most), make([]int, most+1)} {
			wantNotWritten(t, l, top, api.ErrRange)
		}
	}
}

// An element that is wrong is noticed wherever it stands in a list that is as long as there may be.
func TestP5ErrorsOfEachElement(t *testing.T) {
	for at := range most {
		for _, c := range []struct {
			bad int
			err api.Errno
		}{{9999, api.ErrRange}, {math.MaxInt, api.ErrRange}, {-1, api.ErrRange}, {math.MinInt, api.ErrRange}, {10 + 2*at - 3, api.ErrState}} {
			if at == 0 && c.err == api.ErrState {
				continue
			}
			l := sample.Steps(10, 2, most)
			l[at] = c.bad
			wantNotWritten(t, l, 9998, c.err)
			wantNotWritten(t, l[:at+1], 9998, c.err)
		}
		l := sample.Steps(10, 2, most)
		l[at] -= min(at, 1) * 2
		wantBoth(t, l[:at+1], 9998)
	}
}

func TestP8FewBits(t *testing.T) {
	few := func(l []int, top int) {
		f, err := fano.Write(l, top)
		if many := len(l)*(f.Width+2) + top>>f.Width + 1; f.Low.Len+f.High.Len > many || err != api.OK {
			t.Errorf("Write of %v, %d: %d and %d bits, must be at most %d: %d", l, top, f.Low.Len, f.High.Len, many, err)
		}
	}
	for top := range 9 {
		for _, l := range notDecreasing(4, top) {
			few(l, top)
		}
	}
	for _, l := range edgeLists() {
		few(l, greatest)
		few(l, l[len(l)-1])
	}
	for many := 1; many <= most; many++ {
		few(sample.Steps(0, 1, many), 3*many)
		few(sample.Steps(0, 1, many), greatest)
	}
}
