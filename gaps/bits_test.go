package gaps_test

import (
	"fmt"
	"math"
	"slices"
	"strings"
	"testing"

	"lampwright/api"
	"lampwright/gaps"
	"lampwright/golomb"
	"lampwright/internal/sample"
)

// wrongKs are none that k may be.
func wrongKs() []int { return []int{math.MinInt, -1, 0, 17, 18, math.MaxInt} }

func wantWrite(t *testing.T, l []int, at, k int, text string, wantErr api.Errno) {
	t.Helper()
	got, err := gaps.Write(l, at, k)
	sample.WantBits(t, fmt.Sprint("Write of ", l, " relative to ", at, " with ", k), got, err, text, wantErr)
}

func wantRead(t *testing.T, b api.Bits, from, at, k, many int, l []int, after int, err api.Errno) {
	t.Helper()
	gotL, gotAfter, gotErr := gaps.Read(b, from, at, k, many)
	if !slices.Equal(gotL, l) || gotAfter != after || gotErr != err {
		t.Errorf("Read of %d bits from %d, relative to %d, with %d, %d elements: %v %d %d, must be %v %d %d",
			b.Len, from, at, k, many, gotL, gotAfter, gotErr, l, after, err)
	}
}

func TestI3WriteByHand(t *testing.T) {
	for _, c := range []struct {
		l     []int
		at, k int
		text  string
	}{
		{nil, 5, 3, ""},
		{[]int{7}, 7, 1, "1"},
		{[]int{6}, 7, 1, "010"},
		{[]int{6}, 7, 2, "110"},
		// The example of the document: the gaps 9, 1, 0 and 14.
		{[]int{2, 4, 5, 20}, 7, 1, "0001010" + "010" + "1" + "0001111"},
		{[]int{2, 4, 5, 20}, 7, 2, "011010" + "110" + "10" + "011111"},
		{[]int{2, 4, 5, 20}, 7, 3, "0100010" + "1010" + "100" + "0100111"},
	} {
		wantWrite(t, c.l, c.at, c.k, c.text, api.OK)
		wantRead(t, sample.Bits(c.text), 0, c.at, c.k, len(c.l), c.l, len(c.text), api.OK)
	}
}

func TestI3WriteSpellsTheGaps(t *testing.T) {
	for k := 1; k <= 16; k++ {
		for _, l := range append(sample.Rising(7), sample.EdgeLists()...) {
			for _, at := range places() {
				wantWrite(t, l, at, k, sample.Gaps(l, at, k), api.OK)
			}
		}
	}
}

// No list needs more than MaxLen bits: with elements up to MaxNode, the most are 7346, with k = 1 and 299 gaps of 2047 or 4095.
func TestI3WriteAlwaysHasRoom(t *testing.T) {
	far := slices.Concat(sample.Steps(0, 2048, 87), sample.Steps(86*2048+4096, 4096, 213))
	if got, err := gaps.Write(far, top, 1); got.Len != 7346 || err != api.OK {
		t.Errorf("Write: %d bits, %d", got.Len, err)
	}
	for k := 1; k <= 16; k++ {
		wantWrite(t, far, top, k, sample.Gaps(far, top, k), api.OK)
		for _, step := range []int{1, 2, 3, 1023, 1024, 2047, 2048, 2049, top / api.MaxList} {
			l := sample.Steps(0, step, api.MaxList)
			wantWrite(t, l, top, k, sample.Gaps(l, top, k), api.OK)
		}
	}
}

func TestI3WriteErrors(t *testing.T) {
	for _, k := range append(wrongKs(), 1, 16) {
		for _, w := range sample.WrongLists() {
			wantWrite(t, w.List, 5, k, "", w.Err)
			wantWrite(t, w.List, -1, k, "", w.Err)
		}
		for _, at := range wrongPlaces() {
			wantWrite(t, nil, at, k, "", api.ErrRange)
			wantWrite(t, []int{3, 4}, at, k, "", api.ErrRange)
		}
	}
	for _, k := range wrongKs() {
		for _, l := range append(sample.Rising(3), sample.EdgeLists()...) {
			wantWrite(t, l, 5, k, "", api.ErrRange)
		}
	}
}

func TestI3ReadReadsWhatIsWritten(t *testing.T) {
	for k := 1; k <= 16; k++ {
		for i, l := range append(sample.Rising(6), sample.EdgeLists()...) {
			at := places()[i%len(places())]
			text := sample.Gaps(l, at, k)
			start := sample.Mixed(i % 11)
			for _, end := range []string{"", "0", "1", sample.Mixed(70)} {
				if len(start+text+end) <= api.MaxLen {
					wantRead(t, sample.Bits(start+text+end), len(start), at, k, len(l), l, len(start+text), api.OK)
				}
			}
			for part := 0; part < len(text); part += 1 + part/50 {
				wantRead(t, sample.Bits(start+text[:part]), len(start), at, k, len(l), nil, 0, api.ErrShort)
			}
		}
	}
}

// first reads like I3 says: number by number, with the error of golomb.ReadZeta or that of Back.
func first(b api.Bits, from, at, k, many int) ([]int, int, api.Errno) {
	var g []uint64
	for range many {
		gap, after, err := golomb.ReadZeta(b, from, k)
		if err != api.OK {
			return nil, 0, err
		}
		g, from = append(g, gap), after
		if _, err := gaps.Back(g, at); err != api.OK {
			return nil, 0, err
		}
	}
	l, _ := gaps.Back(g, at)
	return l, from, api.OK
}

func TestI3ReadOfEachShortText(t *testing.T) {
	for _, text := range sample.Texts(9) {
		for k := 1; k <= 4; k++ {
			for many := range 4 {
				b, from, at := sample.Bits(text), len(text)/4, len(text)%3
				l, after, err := first(b, from, at, k, many)
				wantRead(t, b, from, at, k, many, l, after, err)
			}
		}
	}
}

// The error of an element comes before that of the next number, and after that of the one before.
func TestI3ReadErrorsOfNumbersInOrder(t *testing.T) {
	below, above, far := sample.Zeta(1, 1), sample.Zeta(top, 1), sample.Zeta(api.MaxNum, 1)
	beyond := sample.Unary(40) + strings.Repeat("1", 40)
	tooGreat := sample.Unary(41)
	for _, c := range []struct {
		text string
		many int
		err  api.Errno
	}{
		{below, 1, api.ErrRange},
		{below, 2, api.ErrRange},
		{below + "0", 2, api.ErrRange},
		{below[:2], 2, api.ErrShort},
		{far, 1, api.ErrRange},
		{far[:80], 1, api.ErrShort},
		{beyond, 1, api.ErrRange},
		{beyond[:80], 1, api.ErrShort},
		{tooGreat, 1, api.ErrRange},
		{tooGreat[:41], 1, api.ErrShort},
		{"1" + above, 2, api.ErrRange},
		{"1" + above + "0", 3, api.ErrRange},
		{"1" + above[:20], 2, api.ErrShort},
		{"1" + far, 2, api.ErrRange},
		{"1" + beyond, 2, api.ErrRange},
		{"1" + tooGreat, 2, api.ErrRange},
		{"1" + "1" + "0", 3, api.ErrShort},
		{"1" + "1", 3, api.ErrShort},
		{"", 1, api.ErrShort},
		{"", api.MaxList, api.ErrShort},
	} {
		wantRead(t, sample.Bits(c.text), 0, 0, 1, c.many, nil, 0, c.err)
		wantRead(t, sample.Bits("0110"+c.text), 4, 0, 1, c.many, nil, 0, c.err)
	}
	wantRead(t, sample.Bits("1"+below), 0, 0, 1, 1, []int{0}, 1, api.OK)
	wantRead(t, sample.Bits("1"+sample.Zeta(top-1, 1)), 0, 0, 1, 2, []int{0, top}, 42, api.OK)
}

func TestI3ReadNothing(t *testing.T) {
	for _, text := range []string{"", "0", "1", sample.Mixed(50), sample.Mixed(api.MaxLen)} {
		for _, from := range []int{0, len(text) / 2, len(text)} {
			for _, k := range []int{1, 16} {
				wantRead(t, sample.Bits(text), from, 0, k, 0, nil, from, api.OK)
				wantRead(t, sample.Bits(text), from, top, k, 0, nil, from, api.OK)
			}
		}
	}
}

func TestI3ReadUpToTheLastBit(t *testing.T) {
	l := []int{3, 4, 900, top}
	text := sample.Gaps(l, 8, 3)
	from := api.MaxLen - len(text)
	full := sample.Bits(sample.Mixed(from) + text)
	wantRead(t, full, from, 8, 3, 4, l, api.MaxLen, api.OK)
	wantRead(t, full, from, 8, 3, 5, nil, 0, api.ErrShort)
	wantRead(t, full, api.MaxLen, 8, 3, 0, nil, api.MaxLen, api.OK)
	wantRead(t, full, api.MaxLen, 8, 3, 1, nil, 0, api.ErrShort)
	wantRead(t, full, api.MaxLen+1, 8, 3, 0, nil, 0, api.ErrRange)
	most := sample.Bits(strings.Repeat("1", api.MaxLen))
	wantRead(t, most, 9, 5, 1, api.MaxList, sample.Steps(5, 1, api.MaxList), 9+api.MaxList, api.OK)
	wantRead(t, most, 9, 5, 1, api.MaxList+1, nil, 0, api.ErrRange)
}

func TestI3ReadRefusesArguments(t *testing.T) {
	for _, w := range sample.WrongBits() {
		for _, from := range []int{-1, 0, w.Bits.Len, math.MaxInt} {
			wantRead(t, w.Bits, from, 5, 1, 1, nil, 0, w.Err)
			wantRead(t, w.Bits, from, -1, 0, -1, nil, 0, w.Err)
		}
	}
	// Bits that are read to the end, and bits that end too early.
	for _, text := range []string{"1111", "0110", ""} {
		b := sample.Bits(text)
		for many := range 5 {
			for _, from := range []int{math.MinInt, -1, len(text) + 1, len(text) + 8, math.MaxInt} {
				wantRead(t, b, from, 5, 1, many, nil, 0, api.ErrRange)
			}
			for _, at := range wrongPlaces() {
				wantRead(t, b, 0, at, 1, many, nil, 0, api.ErrRange)
			}
			for _, k := range wrongKs() {
				wantRead(t, b, 0, 5, k, many, nil, 0, api.ErrRange)
			}
		}
		for _, many := range []int{math.MinInt, -1, api.MaxList + 1, math.MaxInt} {
			wantRead(t, b, 0, 5, 1, many, nil, 0, api.ErrRange)
		}
	}
}
