package fib_test

import (
	"math"
	"testing"

	"lampwright/api"
	"lampwright/bits"
	"lampwright/fib"
	"lampwright/internal/sample"
)

func TestP1ReturnsForAllArguments(t *testing.T) {
	code().WantNothingBesideErrors(t)
	odd := []int{math.MinInt, -1, 0, 1, 63, 64, api.MaxNum, api.MaxNum + 1, math.MaxInt}
	for _, x := range odd {
		if n, err := fib.Number(x); err != api.OK && n != 0 {
			t.Errorf("Number: %d beside the error %d", n, err)
		}
		if l, err := fib.Parts(uint64(x)); err != api.OK && len(l) != 0 {
			t.Errorf("Parts: %v beside the error %d", l, err)
		}
		if b, err := fib.Code(uint64(x)); bits.Check(b) != api.OK || err != api.OK && b.Len != 0 {
			t.Errorf("Code: %v beside the error %d", b, err)
		}
		for _, y := range odd {
			if n, err := fib.Sum([]int{x, y}); err != api.OK && n != 0 {
				t.Errorf("Sum: %d beside the error %d", n, err)
			}
		}
	}
}

func TestP2ArgumentsStayAsTheyAre(t *testing.T) {
	code().WantArgumentsKept(t)
	for _, l := range [][]int{nil, {0}, {1, 3, 63}, {3, 1}, {1, 2, 64}, {64, 0, 2}} {
		m := sample.Around(l, 5)
		fib.Sum(m.List)
		if m.Changed() {
			t.Errorf("the list %v is changed", l)
		}
	}
}

func TestP2EmptyListsCanBeNilOrNot(t *testing.T) {
	for _, b := range []api.Bits{{}, {Bytes: []byte{}}} {
		sample.WantRead(t, "Read", fib.Read, b, 0, 0, 0, api.ErrShort)
	}
	for _, l := range [][]int{nil, {}} {
		wantSum(t, l, 0, api.OK)
	}
}

// A result that a later call could observe would carry the changes into it.
func TestP3EachCallIsByItself(t *testing.T) {
	for range 3 {
		for _, n := range []uint64{0, 6, 255, 256, api.MaxNum} {
			b, err := fib.Code(n)
			sample.WantBits(t, "Code", b, err, spell(n), api.OK)
			sample.WantRead(t, "Read", fib.Read, b, 0, n, b.Len, api.OK)
			sample.Scribble(b)
			l, _ := fib.Parts(n)
			wantParts(t, n, split(n), api.OK)
			wantSum(t, l, n, api.OK)
			sample.Flip(l)
			wantParts(t, n, split(n), api.OK)
		}
		wantNumber(t, 63, 17167680177565, api.OK)
	}
}

func TestP4HoldsForMuch(t *testing.T) {
	much := api.Bits{Len: api.MaxLen, Bytes: make([]byte, 1<<26)}
	sample.WantRead(t, "Read", fib.Read, much, 0, 0, 0, api.ErrForm)
	l := make([]int, 1<<22)
	wantSum(t, l[:1], 1, api.OK)
	if n, err := fib.Sum(l); n != 0 || err != api.ErrState {
		t.Errorf("Sum of a long list: %d %d", n, err)
	}
}
