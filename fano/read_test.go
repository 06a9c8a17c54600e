package fano_test

import (
	"math"
	"slices"
	"strconv"
	"strings"
	"testing"

	"lampwright/api"
	"lampwright/internal/sample"
)

// wantEachFound fails unless each index, and each number from -1 on, leads to what P7 says.
func wantEachFound(t *testing.T, l []int, top int) {
	t.Helper()
	f := sample.Fano(l, top)
	for i, n := range l {
		wantGet(t, f, i, n, api.OK)
	}
	for _, i := range []int{math.MinInt, -1, len(l), len(l) + 1, math.MaxInt} {
		wantGet(t, f, i, 0, api.ErrRange)
	}
	for _, n := range l {
		wantFound(t, f, l, n-1)
		wantFound(t, f, l, n)
		wantFound(t, f, l, n+1)
	}
	for _, n := range []int{math.MinInt, -1, 0, 1, top / 2, top - 1, top, top + 1, math.MaxInt} {
		wantFound(t, f, l, n)
	}
}

// wantFound fails unless Next has the first element of the list that is at least n.
func wantFound(t *testing.T, f api.Fano, l []int, n int) {
	t.Helper()
	if i := slices.IndexFunc(l, func(element int) bool { return element >= n }); i >= 0 {
		wantNext(t, f, n, i, l[i], api.OK)
	} else {
		wantNext(t, f, n, 0, 0, api.ErrNone)
	}
}

// wantRefused fails unless all functions have this error.
func wantRefused(t *testing.T, f api.Fano, err api.Errno) {
	t.Helper()
	wantRead(t, f, nil, err)
	for _, n := range []int{math.MinInt, -1, 0, 1, f.N, math.MaxInt} {
		wantGet(t, f, n, 0, err)
		wantNext(t, f, n, 0, 0, err)
	}
}

// wantShortTexts fails unless of all texts of at most a few signs exactly those that P5 says of a list with many elements from 0 to top are read, as this list.
func wantShortTexts(t *testing.T, many, top, longestLow, longestHigh int) {
	t.Helper()
	key := func(width int, low, high string) string { return strconv.Itoa(width) + " " + low + " " + high }
	lists := map[string][]int{}
	for _, l := range notDecreasing(many, top) {
		if len(l) == many {
			f := sample.Fano(l, top)
			lists[key(f.Width, text(f.Low), text(f.High))] = l
		}
	}
	read := 0
	for width := -1; width < 4; width++ {
		for _, low := range sample.Texts(longestLow) {
			for _, high := range sample.Texts(longestHigh) {
				l, ok := lists[key(width, low, high)]
				err := api.ErrForm
				if ok {
					read++
					err = api.OK
				}
				wantRead(t, api.Fano{N: many, Top: top, Width: width, Low: sample.Bits(low), High: sample.Bits(high)}, l, err)
			}
		}
	}
	if read != len(lists) {
		t.Errorf("%d of %d lists with %d elements from 0 to %d are read", read, len(lists), many, top)
	}
}

// text spells bits.
func text(b api.Bits) string {
	var all strings.Builder
	for _, n := range b.Bytes {
		all.WriteString(sample.Binary(uint64(n), 8))
	}
	return all.String()[:b.Len]
}

func TestP6ReadOfEachShortText(t *testing.T) {
	for top := range 7 {
		wantShortTexts(t, 0, top, 2, 8)
		wantShortTexts(t, 1, top, 3, 8)
		wantShortTexts(t, 2, top, 3, 8)
		wantShortTexts(t, 3, top, 4, 9)
	}
}

// upTo is a list, and the number up to which its elements may go.
type upTo struct {
	l   []int
	top int
}

// changeable are lists whose bits are changed.
func changeable() []upTo {
	return []upTo{
		{nil, 40},
		{[]int{7}, 40},
		{[]int{1, 1, 5, 12}, 15},
		{[]int{1, 1, 5, 12}, 14},
		{[]int{0, 3, 3, 3, 8, 20, 21, 39, 40}, 40},
		{[]int{0, 9, 9, 1000, 70000, greatest}, greatest},
		{slices.Repeat([]int{6}, 50), 6},
		{sample.Steps(3, 7, 60), 1000},
		{sample.Steps(0, 3000, most), greatest},
	}
}

// Whatever is read is written in this way, also if one bit is another one.
func TestP6ReadOfChangedBits(t *testing.T) {
	reads := [2]int{}
	for _, c := range changeable() {
		for part, many := range []int{sample.Fano(c.l, c.top).Low.Len, sample.Fano(c.l, c.top).High.Len} {
			for at := range many {
				f := sample.Fano(c.l, c.top)
				b := []api.Bits{f.Low, f.High}[part]
				b.Bytes[at/8] ^= 0x80 >> (at % 8)
				if wantSpelled(t, f) {
					reads[part]++
				}
			}
		}
	}
	// Another low bit can be that of another list, but another high bit is always one 1 bit too many or too few.
	if reads[0] == 0 || reads[1] != 0 {
		t.Errorf("of lists with another bit, %d are read", reads)
	}
}

// Two bits that stand next to each other and are not equal are exchanged, so that the number of 1 bits is the same.
func TestP6ReadOfExchangedBits(t *testing.T) {
	read := 0
	for _, c := range changeable() {
		f := sample.Fano(c.l, c.top)
		high := text(f.High)
		for at := range len(high) - 1 {
			if high[at] == high[at+1] {
				continue
			}
			f.High = sample.Bits(high[:at] + high[at+1:at+2] + high[at:at+1] + high[at+2:])
			if at+2 == len(high) {
				// The last bit is not a 0 bit.
				wantRefused(t, f, api.ErrForm)
			} else if wantSpelled(t, f) {
				read++
			}
		}
	}
	if read == 0 {
		t.Error("no list with other bits is read")
	}
}

// wantSpelled reports whether f is read, and fails if it is not what P5 says of the list.
func wantSpelled(t *testing.T, f api.Fano) bool {
	t.Helper()
	l, err := readList(t, f)
	if err != api.OK {
		wantRefused(t, f, api.ErrForm)
		return false
	}
	if !slices.IsSorted(l) || len(l) > 0 && (l[0] < 0 || l[len(l)-1] > f.Top) || !sample.SameFano(sample.Fano(l, f.Top), f) {
		t.Errorf("Read of %v: %v", f, l)
	}
	return true
}

func TestP6RefusesOtherNumbers(t *testing.T) {
	for _, c := range changeable() {
		right := sample.Fano(c.l, c.top)
		for _, width := range []int{math.MinInt, -64, -1, 0, 1, 2, 3, 11, 18, 20, 21, 63, 64, 65, math.MaxInt} {
			if f := right; width != f.Width {
				f.Width = width
				wantRefused(t, f, api.ErrForm)
			}
		}
		for n := range most + 1 {
			if f := right; n != f.N && (n < 70 || n > most-2) {
				f.N = n
				wantRefused(t, f, api.ErrForm)
			}
		}
		for _, top := range []int{0, c.top - 1, c.top + 1, c.top + right.N, 2*c.top + 1, greatest, greatest / 2} {
			if f := right; top != f.Top && top <= greatest {
				f.Top = top
				// Of a list that has elements, another top need not change the bits.
				wantSpelled(t, f)
			}
		}
	}
}

func TestP6RefusesMoreOrLessBits(t *testing.T) {
	for _, c := range changeable() {
		right := sample.Fano(c.l, c.top)
		low, high := text(right.Low), text(right.High)
		for _, more := range []string{"0", "1", "00", "10", "0000000", "00000000", sample.Mixed(100)} {
			for _, f := range []api.Fano{
				{Low: sample.Bits(low + more), High: right.High},
				{Low: sample.Bits(more + low), High: right.High},
				{Low: right.Low, High: sample.Bits(high + more)},
				{Low: right.Low, High: sample.Bits(more + high)},
			} {
				f.N, f.Top, f.Width = right.N, right.Top, right.Width
				wantRefused(t, f, api.ErrForm)
			}
		}
		for end := range len(high) {
			f := right
			f.High = sample.Bits(high[:end])
			wantRead(t, f, nil, api.ErrForm)
		}
		for end := range len(low) {
			f := right
			f.Low = sample.Bits(low[:end])
			wantRead(t, f, nil, api.ErrForm)
		}
	}
}

func TestP6RefusesWhatAreNoBits(t *testing.T) {
	for _, c := range changeable() {
		for _, w := range sample.WrongBits() {
			f := sample.Fano(c.l, c.top)
			f.Low = w.Bits
			wantRefused(t, f, api.ErrForm)
			f.High = w.Bits
			wantRefused(t, f, api.ErrForm)
			f.Low = sample.Fano(c.l, c.top).Low
			wantRefused(t, f, api.ErrForm)
		}
	}
	// A bit after the last one.
	f := sample.Fano([]int{1, 1, 5, 12}, 14)
	f.High.Bytes[1] |= 1
	wantRefused(t, f, api.ErrForm)
	f = sample.Fano([]int{1, 1, 5, 12}, 14)
	f.Low.Bytes[0] |= 1
	wantRefused(t, f, api.ErrForm)
	// The bits that a list without elements would have if there were room for them.
	for _, top := range []int{api.MaxLen, api.MaxLen + 1, greatest} {
		wantRefused(t, api.Fano{Top: top, High: sample.Bits(strings.Repeat("0", top+1))}, api.ErrForm)
		wantRefused(t, api.Fano{Top: top, High: sample.Bits(strings.Repeat("0", api.MaxLen))}, api.ErrForm)
	}
}

func TestP6Errors(t *testing.T) {
	right := sample.Fano([]int{1, 1, 5, 12}, 15)
	odd := []api.Fano{{}, right, {Width: -1, Low: api.Bits{Len: 1}, High: api.Bits{Len: -1}}, {N: most, Top: greatest, Width: math.MaxInt}}
	for _, f := range odd {
		for _, n := range []int{math.MinInt, -1, most + 1, math.MaxInt} {
			for _, top := range []int{math.MinInt, -1, 0, 15, greatest, greatest + 1, math.MaxInt} {
				f.N, f.Top = n, top
				wantRefused(t, f, api.ErrRange)
			}
		}
		for _, top := range []int{math.MinInt, -1, greatest + 1, math.MaxInt} {
			for _, n := range []int{0, 4, most} {
				f.N, f.Top = n, top
				wantRefused(t, f, api.ErrRange)
			}
		}
	}
	wantRefused(t, api.Fano{}, api.ErrForm)
	wantRefused(t, api.Fano{N: most, Top: greatest}, api.ErrForm)
}

func TestP7ByHand(t *testing.T) {
	f := sample.Fano([]int{1, 1, 5, 12}, 15)
	for i, n := range []int{1, 1, 5, 12} {
		wantGet(t, f, i, n, api.OK)
	}
	wantGet(t, f, -1, 0, api.ErrRange)
	wantGet(t, f, 4, 0, api.ErrRange)
	for n, want := range map[int][2]int{math.MinInt: {0, 1}, -1: {0, 1}, 0: {0, 1}, 1: {0, 1}, 2: {2, 5}, 5: {2, 5}, 6: {3, 12}, 12: {3, 12}} {
		wantNext(t, f, n, want[0], want[1], api.OK)
	}
	for _, n := range []int{13, 15, 16, greatest, math.MaxInt} {
		wantNext(t, f, n, 0, 0, api.ErrNone)
	}
}
