package varint_test

import (
	"bytes"
	"math"
	"testing"

	"lampwright/api"
	"lampwright/internal/sample"
	"lampwright/varint"
)

// oddBytes are right and wrong lists of bytes.
func oddBytes() [][]byte {
	return [][]byte{nil, {0}, {5}, {128}, {128, 0}, {172, 2, 0}, {1, 2, 128, 128}, bytes.Repeat([]byte{255}, 9), bytes.Repeat([]byte{255}, 20), make([]byte, api.MaxBytes), make([]byte, api.MaxBytes+1)}
}

func TestP1ReturnsForAllArguments(t *testing.T) {
	for _, b := range oddBytes() {
		for _, at := range []int{math.MinInt, -1, 0, 1, 9, 10, api.MaxBytes, api.MaxBytes + 1, math.MaxInt} {
			if n, after, err := varint.Read(b, at); err != api.OK && (n != 0 || after != 0) {
				t.Errorf("Read: %d %d beside the error %d", n, after, err)
			}
		}
		if l, err := varint.All(b); err != api.OK && len(l) != 0 {
			t.Errorf("All: %v beside the error %d", l, err)
		}
	}
	for _, many := range []int{0, 1, api.MaxBytes / 10, api.MaxBytes, api.MaxBytes + 1} {
		l := make([]uint64, many)
		sample.Flip(l)
		if b, err := varint.Write(l); err != api.OK && len(b) != 0 {
			t.Errorf("Write: %v beside the error %d", b, err)
		}
	}
}

// A result that shared memory with an argument would carry the changes into it.
func TestP2ArgumentsStayAsTheyAre(t *testing.T) {
	for _, b := range oddBytes() {
		m := sample.Around(b, 7)
		for at := range min(len(b)+1, 30) {
			varint.Read(m.List, at)
		}
		l, _ := varint.All(m.List)
		sample.Flip(l)
		if m.Changed() {
			t.Errorf("%d bytes are changed", len(b))
		}
	}
	for _, l := range [][]uint64{nil, {0}, {300, 5, math.MaxUint64}, make([]uint64, api.MaxBytes+1)} {
		m := sample.Around(l, 7)
		b, _ := varint.Write(m.List)
		sample.Flip(b)
		if m.Changed() {
			t.Errorf("a list of %d numbers is changed", len(l))
		}
	}
}

func TestP2EmptyListsCanBeNilOrNot(t *testing.T) {
	for _, b := range [][]byte{nil, {}} {
		wantRead(t, b, 0, 0, 0, api.ErrShort)
		wantAll(t, b, nil, api.OK)
	}
	for _, l := range [][]uint64{nil, {}} {
		wantWrite(t, l, nil, api.OK)
	}
}

func TestP3EachCallIsByItself(t *testing.T) {
	numbers := []uint64{0, 300, 127, math.MaxUint64, 1 << 14}
	for range 3 {
		wantWrite(t, numbers, sample.Varints(numbers...), api.OK)
		b, _ := varint.Write(numbers)
		wantRead(t, b, 1, 300, 3, api.OK)
		wantRead(t, b, 0, 0, 1, api.OK)
		wantAll(t, b, numbers, api.OK)
		l, _ := varint.All(b)
		sample.Flip(l)
		wantAll(t, b, numbers, api.OK)
		sample.Flip(b)
		wantFold(t, -3, 5)
	}
}

func TestP4HoldsForMuch(t *testing.T) {
	much := make([]byte, 1<<26)
	wantRead(t, much, 0, 0, 0, api.ErrMany)
	wantAll(t, much, nil, api.ErrMany)
	wantWrite(t, make([]uint64, 1<<22), nil, api.ErrMany)
}
