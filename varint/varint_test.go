package varint_test

import (
	"bytes"
	"math"
	"slices"
	"testing"

	"lampwright/api"
	"lampwright/internal/sample"
	"lampwright/varint"
)

// numbers returns small numbers, and those around each power of 2, up to the greatest one.
func numbers() []uint64 {
	all := append(sample.Numbers(), sample.GreatNumbers()...)
	for power := range 64 {
		n := uint64(1) << power
		all = append(all, n-1, n, n+1, n+n/3)
	}
	return all
}

// wantFold fails unless Fold maps n to folded, and Unfold maps it back.
func wantFold(t *testing.T, n int64, folded uint64) {
	t.Helper()
	if got := varint.Fold(n); got != folded {
		t.Errorf("Fold of %d: %d, must be %d", n, got, folded)
	}
	if got := varint.Unfold(folded); got != n {
		t.Errorf("Unfold of %d: %d, must be %d", folded, got, n)
	}
}

// wantWrite fails unless Write has these results.
func wantWrite(t *testing.T, l []uint64, b []byte, err api.Errno) {
	t.Helper()
	if gotB, gotErr := varint.Write(l); !bytes.Equal(gotB, b) || gotErr != err {
		t.Errorf("Write of %d numbers: %v %d, must be %v %d", len(l), gotB, gotErr, b, err)
	}
}

func TestF1ByHand(t *testing.T) {
	for folded, n := range []int64{0, -1, 1, -2, 2, -3, 3, -4, 4, -5, 5} {
		wantFold(t, n, uint64(folded))
	}
	wantFold(t, 1000, 2000)
	wantFold(t, -1000, 1999)
	wantFold(t, 1<<62, 1<<63)
	wantFold(t, -1<<62, 1<<63-1)
	wantFold(t, math.MaxInt64, math.MaxUint64-1)
	wantFold(t, math.MinInt64, math.MaxUint64)
}

func TestF1Inverse(t *testing.T) {
	for _, n := range numbers() {
		if got := varint.Fold(varint.Unfold(n)); got != n {
			t.Errorf("Fold of Unfold of %d: %d", n, got)
		}
		if got := varint.Unfold(varint.Fold(int64(n))); got != int64(n) {
			t.Errorf("Unfold of Fold of %d: %d", int64(n), got)
		}
	}
}

// Next to a number is the one on the other side of 0.
func TestF1Order(t *testing.T) {
	for _, n := range numbers() {
		half := int64(n / 2)
		wantFold(t, half, n/2*2)
		wantFold(t, -half-1, n/2*2+1)
	}
}

func TestF2ByHand(t *testing.T) {
	for _, c := range []struct {
		n uint64
		b []byte
	}{
		{0, []byte{0}},
		{1, []byte{1}},
		{127, []byte{127}},
		{128, []byte{128, 1}},
		{129, []byte{129, 1}},
		{300, []byte{172, 2}},
		{1<<14 - 1, []byte{255, 127}},
		{1 << 14, []byte{128, 128, 1}},
		{1<<63 - 1, []byte{255, 255, 255, 255, 255, 255, 255, 255, 127}},
		{1 << 63, []byte{128, 128, 128, 128, 128, 128, 128, 128, 128, 1}},
		{math.MaxUint64, []byte{255, 255, 255, 255, 255, 255, 255, 255, 255, 1}},
	} {
		wantWrite(t, []uint64{c.n}, c.b, api.OK)
	}
	wantWrite(t, nil, nil, api.OK)
	wantWrite(t, []uint64{300, 0, 1 << 14, 127}, []byte{172, 2, 0, 128, 128, 1, 127}, api.OK)
}

func TestF2NumbersOfEachSize(t *testing.T) {
	for _, n := range numbers() {
		wantWrite(t, []uint64{n}, sample.Varint(n), api.OK)
	}
}

func TestF2NumberOfBytes(t *testing.T) {
	for long := 1; long < 10; long++ {
		least := uint64(1) << (7 * long)
		for n, want := range map[uint64]int{least - 1: long, least: long + 1} {
			if b, _ := varint.Write([]uint64{n}); len(b) != want {
				t.Errorf("Write of %d: %d bytes, must be %d", n, len(b), want)
			}
		}
	}
}

func TestF2SeveralNumbers(t *testing.T) {
	all := numbers()
	for from := 0; from < len(all); from += 50 {
		l := all[from:min(from+300, len(all))]
		wantWrite(t, l, sample.Varints(l...), api.OK)
	}
}

func TestF2TooManyBytes(t *testing.T) {
	for long := 1; long <= 10; long++ {
		n := uint64(1) << (7 * (long - 1))
		for rest := range 3 {
			// As many numbers as there is room for, behind some of one byte.
			fit := slices.Concat(make([]uint64, rest), slices.Repeat([]uint64{n}, (api.MaxBytes-rest)/long))
			wantWrite(t, fit, sample.Varints(fit...), api.OK)
			wantWrite(t, append(fit, n), nil, api.ErrMany)
			// The rest of the room is for numbers of one byte.
			room := api.MaxBytes - len(sample.Varints(fit...))
			full := slices.Concat(fit, make([]uint64, room))
			wantWrite(t, full, sample.Varints(full...), api.OK)
			wantWrite(t, append(full, 0), nil, api.ErrMany)
		}
	}
}
