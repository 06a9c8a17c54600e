package unary_test

import (
	"math"
	"slices"
	"strings"
	"testing"

	"lampwright/api"
	"lampwright/internal/sample"
	"lampwright/unary"
)

// wantAll fails unless All has these results.
func wantAll(t *testing.T, b api.Bits, many int, l []uint64, after int, err api.Errno) {
	t.Helper()
	gotL, gotAfter, gotErr := unary.All(b, many)
	if !slices.Equal(gotL, l) || gotAfter != after || gotErr != err {
		t.Errorf("All of %d bits, %d: %v %d %d, must be %v %d %d", b.Len, many, gotL, gotAfter, gotErr, l, after, err)
	}
}

func TestB1CodeOfEachNumber(t *testing.T) {
	for n := range api.MaxLen {
		if n > 300 && n < api.MaxLen-100 && n%61 != 0 {
			continue
		}
		got, err := unary.Code(uint64(n))
		sample.WantBits(t, "Code", got, err, sample.Unary(n), api.OK)
	}
}

func TestB1CodeErrors(t *testing.T) {
	for _, n := range []uint64{api.MaxLen, api.MaxLen + 1, 1 << 32, 1 << 63, 1<<63 + 1, math.MaxUint64} {
		got, err := unary.Code(n)
		sample.WantBits(t, "Code of a number that is too great", got, err, "", api.ErrRange)
	}
}

func TestB1ReadAtEachPosition(t *testing.T) {
	for _, text := range append(sample.Texts(9), sample.Mixed(100), sample.Unary(130)+sample.Unary(0)+sample.Unary(64)) {
		for at := range len(text) + 1 {
			if n := strings.IndexByte(text[at:], '1'); n >= 0 {
				sample.WantRead(t, "Read", unary.Read, sample.Bits(text), at, uint64(n), at+n+1, api.OK)
			} else {
				sample.WantRead(t, "Read", unary.Read, sample.Bits(text), at, 0, 0, api.ErrShort)
			}
		}
	}
}

func TestB1ReadErrors(t *testing.T) {
	full := sample.Bits(sample.Unary(api.MaxLen - 1))
	sample.WantRead(t, "Read", unary.Read, full, 0, api.MaxLen-1, api.MaxLen, api.OK)
	sample.WantRead(t, "Read", unary.Read, full, api.MaxLen-1, 0, api.MaxLen, api.OK)
	sample.WantRead(t, "Read", unary.Read, full, api.MaxLen, 0, 0, api.ErrShort)
	sample.WantRead(t, "Read", unary.Read, full, api.MaxLen+1, 0, 0, api.ErrRange)
	sample.WantRead(t, "Read", unary.Read, sample.Bits(strings.Repeat("0", api.MaxLen)), 0, 0, 0, api.ErrShort)
	sample.WantRead(t, "Read", unary.Read, api.Bits{}, 0, 0, 0, api.ErrShort)
	for _, at := range []int{math.MinInt, -8, -1, 5, 8, math.MaxInt} {
		sample.WantRead(t, "Read", unary.Read, sample.Bits("0001"), at, 0, 0, api.ErrRange)
	}
	for _, w := range sample.WrongBits() {
		for _, at := range []int{0, -1, 1, math.MaxInt} {
			sample.WantRead(t, "Read", unary.Read, w.Bits, at, 0, 0, w.Err)
		}
	}
}

func TestB1ReadUndoesCode(t *testing.T) {
	for _, n := range []uint64{0, 1, 7, 8, 63, 64, 65, 4000, api.MaxLen - 1} {
		code, _ := unary.Code(n)
		sample.WantRead(t, "Read", unary.Read, code, 0, n, int(n)+1, api.OK)
	}
}

func TestB2ManyPutsCodesOneAfterTheOther(t *testing.T) {
	for _, l := range [][]uint64{nil, {}, {0}, {5}, {0, 0, 0}, {3, 0, 2}, {7, 8, 9}, {63, 64, 65, 127, 128, 129}, {1000, 0, 2000, 1}} {
		text := ""
		for _, n := range l {
			text += sample.Unary(int(n))
		}
		got, err := unary.Many(l)
		sample.WantBits(t, "Many", got, err, text, api.OK)
		wantAll(t, got, len(l), l, len(text), api.OK)
	}
}

func TestB2ManyErrors(t *testing.T) {
	for _, c := range []struct {
		l    []uint64
		text string
		err  api.Errno
	}{
		{[]uint64{api.MaxLen - 1}, sample.Unary(api.MaxLen - 1), api.OK},
		{[]uint64{api.MaxLen - 2, 0}, sample.Unary(api.MaxLen-2) + "1", api.OK},
		{[]uint64{0, api.MaxLen - 2}, "1" + sample.Unary(api.MaxLen-2), api.OK},
		{make([]uint64, api.MaxLen), strings.Repeat("1", api.MaxLen), api.OK},
		{make([]uint64, api.MaxLen+1), "", api.ErrFull},
		{[]uint64{api.MaxLen - 1, 0}, "", api.ErrFull},
		{[]uint64{api.MaxLen - 2, 1}, "", api.ErrFull},
		{[]uint64{1, api.MaxLen - 2}, "", api.ErrFull},
		{[]uint64{api.MaxLen - 1, api.MaxLen - 1, 0}, "", api.ErrFull},
		{[]uint64{api.MaxLen}, "", api.ErrRange},
		{[]uint64{0, math.MaxUint64}, "", api.ErrRange},
		{[]uint64{1 << 63, 1 << 63}, "", api.ErrRange},
		// The error that B2 mentions first.
		{[]uint64{api.MaxLen - 1, 0, api.MaxLen}, "", api.ErrRange},
		{[]uint64{api.MaxLen - 1, api.MaxLen - 1, 1 << 63}, "", api.ErrRange},
	} {
		got, err := unary.Many(c.l)
		sample.WantBits(t, "Many", got, err, c.text, c.err)
	}
}

func TestB2AllReadsFromTheBeginning(t *testing.T) {
	for _, text := range append(sample.Texts(9), sample.Mixed(90)) {
		pieces := strings.SplitAfter(text, "1")
		pieces = pieces[:len(pieces)-1] // what follows the last 1 bit is no code
		var l []uint64
		after := 0
		wantAll(t, sample.Bits(text), 0, nil, 0, api.OK)
		for i, piece := range pieces {
			l = append(l, uint64(len(piece)-1))
			after += len(piece)
			wantAll(t, sample.Bits(text), i+1, l, after, api.OK)
		}
		wantAll(t, sample.Bits(text), len(pieces)+1, nil, 0, api.ErrShort)
	}
}

func TestB2AllErrors(t *testing.T) {
	for _, many := range []int{math.MinInt, -1, api.MaxLen + 1, math.MaxInt} {
		wantAll(t, sample.Bits("0101"), many, nil, 0, api.ErrRange)
		wantAll(t, api.Bits{}, many, nil, 0, api.ErrRange)
	}
	wantAll(t, sample.Bits("0101"), api.MaxLen, nil, 0, api.ErrShort)
	wantAll(t, sample.Bits(strings.Repeat("1", api.MaxLen)), api.MaxLen, make([]uint64, api.MaxLen), api.MaxLen, api.OK)
	wantAll(t, api.Bits{}, 1, nil, 0, api.ErrShort)
	for _, w := range sample.WrongBits() {
		for _, many := range []int{0, 1, -1, math.MaxInt} {
			wantAll(t, w.Bits, many, nil, 0, w.Err)
		}
	}
}
