package unary_test

import (
	"math"
	"slices"
	"strings"
	"testing"

	"lampwright/api"
	"lampwright/internal/sample"
	"lampwright/unary"
)

// spell a number as its code.
func spell(n int) string { return strings.Repeat("0", n) + "1" }

// wantBits fails unless the result is the bits of the text, or an error and no bits.
func wantBits(t *testing.T, call string, got api.Bits, err api.Errno, text string, wantErr api.Errno) {
	t.Helper()
	if err != wantErr || !sample.Same(got, text) {
		t.Errorf("%s: %v %d, must be %q %d", call, got, err, text, wantErr)
	}
}

// wantRead fails unless Read has these results.
func wantRead(t *testing.T, b api.Bits, at int, n uint64, after int, err api.Errno) {
	t.Helper()
	gotN, gotAfter, gotErr := unary.Read(b, at)
	if gotN != n || gotAfter != after || gotErr != err {
		t.Errorf("Read of %d bits at %d: %d %d %d, must be %d %d %d", b.Len, at, gotN, gotAfter, gotErr, n, after, err)
	}
}

// wantAll fails unless All has these results.
func wantAll(t *testing.T, b api.Bits, many int, l []uint64, after int, err api.Errno) {
	t.Helper()
	gotL, gotAfter, gotErr := unary.All(b, many)
	if !slices.Equal(gotL, l) || gotAfter != after || gotErr != err {
		t.Errorf("All of %d bits, %d: %v %d %d, must be %v %d %d", b.Len, many, gotL, gotAfter, gotErr, l, after, err)
	}
}

func TestB1CodeOfEachNumber(t *testing.T) {
	for n := range api.MaxLen {
		if n > 300 && n < api.MaxLen-100 && n%61 != 0 {
			continue
		}
		got, err := unary.Code(uint64(n))
		wantBits(t, "Code", got, err, spell(n), api.OK)
	}
}

func TestB1CodeErrors(t *testing.T) {
	for _, n := range []uint64{api.MaxLen, api.MaxLen + 1, 1 << 32, 1 << 63, 1<<63 + 1, math.MaxUint64} {
		got, err := unary.Code(n)
		wantBits(t, "Code of a number that is too great", got, err, "", api.ErrRange)
	}
}

func TestB1ReadAtEachPosition(t *testing.T) {
	for _, text := range append(sample.Texts(9), sample.Mixed(100), spell(130)+spell(0)+spell(64)) {
		for at := range len(text) + 1 {
			if n := strings.IndexByte(text[at:], '1'); n >= 0 {
				wantRead(t, sample.Bits(text), at, uint64(n), at+n+1, api.OK)
			} else {
				wantRead(t, sample.Bits(text), at, 0, 0, api.ErrShort)
			}
		}
	}
}

func TestB1ReadErrors(t *testing.T) {
	full := sample.Bits(spell(api.MaxLen - 1))
	wantRead(t, full, 0, api.MaxLen-1, api.MaxLen, api.OK)
	wantRead(t, full, api.MaxLen-1, 0, api.MaxLen, api.OK)
	wantRead(t, full, api.MaxLen, 0, 0, api.ErrShort)
	wantRead(t, full, api.MaxLen+1, 0, 0, api.ErrRange)
	wantRead(t, sample.Bits(strings.Repeat("0", api.MaxLen)), 0, 0, 0, api.ErrShort)
	wantRead(t, api.Bits{}, 0, 0, 0, api.ErrShort)
	for _, at := range []int{math.MinInt, -8, -1, 5, 8, math.MaxInt} {
		wantRead(t, sample.Bits("0001"), at, 0, 0, api.ErrRange)
	}
	for _, w := range sample.WrongBits() {
		for _, at := range []int{0, -1, 1, math.MaxInt} {
			wantRead(t, w.Bits, at, 0, 0, w.Err)
		}
	}
}

func TestB1ReadUndoesCode(t *testing.T) {
	for _, n := range []uint64{0, 1, 7, 8, 63, 64, 65, 4000, api.MaxLen - 1} {
		code, _ := unary.Code(n)
		wantRead(t, code, 0, n, int(n)+1, api.OK)
	}
}

func TestB2ManyPutsCodesOneAfterTheOther(t *testing.T) {
	for _, l := range [][]uint64{nil, {}, {0}, {5}, {0, 0, 0}, {3, 0, 2}, {7, 8, 9}, {63, 64, 65, 127, 128, 129}, {1000, 0, 2000, 1}} {
		text := ""
		for _, n := range l {
			text += spell(int(n))
		}
		got, err := unary.Many(l)
		wantBits(t, "Many", got, err, text, api.OK)
		wantAll(t, got, len(l), l, len(text), api.OK)
	}
}

func TestB2ManyErrors(t *testing.T) {
	for _, c := range []struct {
		l    []uint64
		text string
		err  api.Errno
	}{
		{[]uint64{api.MaxLen - 1}, spell(api.MaxLen - 1), api.OK},
		{[]uint64{api.MaxLen - 2, 0}, spell(api.MaxLen-2) + "1", api.OK},
		{[]uint64{0, api.MaxLen - 2}, "1" + spell(api.MaxLen-2), api.OK},
		{make([]uint64, api.MaxLen), strings.Repeat("1", api.MaxLen), api.OK},
		{make([]uint64, api.MaxLen+1), "", api.ErrFull},
		{[]uint64{api.MaxLen - 1, 0}, "", api.ErrFull},
		{[]uint64{api.MaxLen - 2, 1}, "", api.ErrFull},
		{[]uint64{1, api.MaxLen - 2}, "", api.ErrFull},
		{[]uint64{api.MaxLen - 1, api.MaxLen - 1, 0}, "", api.ErrFull},
		{[]uint64{api.MaxLen}, "", api.ErrRange},
		{[]uint64{0, math.MaxUint64}, "", api.ErrRange},
		{[]uint64{1 << 63, 1 << 63}, "", api.ErrRange},
		// The error that B2 mentions first.
		{[]uint64{api.MaxLen - 1, 0, api.MaxLen}, "", api.ErrRange},
		{[]uint64{api.MaxLen - 1, api.MaxLen - 1, 1 << 63}, "", api.ErrRange},
	} {
		got, err := unary.Many(c.l)
		wantBits(t, "Many", got, err, c.text, c.err)
	}
}

func TestB2AllReadsFromTheBeginning(t *testing.T) {
	for _, text := range append(sample.Texts(9), sample.Mixed(90)) {
		pieces := strings.SplitAfter(text, "1")
		pieces = pieces[:len(pieces)-1] // what follows the last 1 bit is no code
		var l []uint64
		after := 0
		wantAll(t, sample.Bits(text), 0, nil, 0, api.OK)
		for i, piece := range pieces {
			l = append(l, uint64(len(piece)-1))
			after += len(piece)
			wantAll(t, sample.Bits(text), i+1, l, after, api.OK)
		}
		wantAll(t, sample.Bits(text), len(pieces)+1, nil, 0, api.ErrShort)
	}
}

func TestB2AllErrors(t *testing.T) {
	for _, many := range []int{math.MinInt, -1, api.MaxLen + 1, math.MaxInt} {
		wantAll(t, sample.Bits("0101"), many, nil, 0, api.ErrRange)
		wantAll(t, api.Bits{}, many, nil, 0, api.ErrRange)
	}
	wantAll(t, sample.Bits("0101"), api.MaxLen, nil, 0, api.ErrShort)
	wantAll(t, sample.Bits(strings.Repeat("1", api.MaxLen)), api.MaxLen, make([]uint64, api.MaxLen), api.MaxLen, api.OK)
	wantAll(t, api.Bits{}, 1, nil, 0, api.ErrShort)
	for _, w := range sample.WrongBits() {
		for _, many := range []int{0, 1, -1, math.MaxInt} {
			wantAll(t, w.Bits, many, nil, 0, w.Err)
		}
	}
}
