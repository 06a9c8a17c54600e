package bits_test

import (
	"math"
	"testing"

	"lampwright/api"
	"lampwright/bits"
	"lampwright/internal/sample"
)

// oddInts are numbers at the edges of what a position or a width may be.
func oddInts() []int {
	return []int{math.MinInt, -1, 0, 1, 7, 8, 63, 64, 65, api.MaxLen - 1, api.MaxLen, api.MaxLen + 1, math.MaxInt}
}

func TestP1ReturnsForAllArguments(t *testing.T) {
	noBits := func(call string, got api.Bits, err api.Errno) {
		if err != api.OK && (got.Len != 0 || len(got.Bytes) != 0) {
			t.Errorf("%s: bits %v beside the error %d", call, got, err)
		}
		if bits.Check(got) != api.OK {
			t.Errorf("%s: the result %v is not bits", call, got)
		}
	}
	for _, b := range sample.OddBits() {
		for _, x := range oddInts() {
			for _, y := range oddInts() {
				got, err := bits.Put(b, uint64(x), y)
				noBits("Put", got, err)
				got, err = bits.Cut(b, x, y)
				noBits("Cut", got, err)
				if n, err := bits.Get(b, x, y); err != api.OK && n != 0 {
					t.Errorf("Get: number %d beside the error %d", n, err)
				}
			}
		}
		for _, c := range sample.OddBits() {
			got, err := bits.Join(b, c)
			noBits("Join", got, err)
		}
	}
}

// A result that shared memory with an argument would carry the scribbling into it.
func TestP2ArgumentsStayAsTheyAre(t *testing.T) {
	for n := range 40 {
		a, b := sample.Guarded(sample.Mixed(n)), sample.Guarded(sample.Mixed(n/2))
		bits.Check(a.Bits)
		bits.Get(a.Bits, 0, n)
		for _, width := range []int{0, 1, 8, 64} {
			got, _ := bits.Put(a.Bits, 0, width)
			sample.Scribble(got)
		}
		got, _ := bits.Join(a.Bits, b.Bits)
		sample.Scribble(got)
		got, _ = bits.Join(a.Bits, a.Bits)
		sample.Scribble(got)
		got, _ = bits.Join(a.Bits, api.Bits{})
		sample.Scribble(got)
		got, _ = bits.Join(api.Bits{}, a.Bits)
		sample.Scribble(got)
		for from := range n + 1 {
			got, _ = bits.Cut(a.Bits, from, n)
			sample.Scribble(got)
			got, _ = bits.Cut(a.Bits, 0, from)
			sample.Scribble(got)
		}
		if a.Changed() || b.Changed() {
			t.Fatalf("an argument of %d bits is changed", n)
		}
	}
}

func TestP2EmptyListsCanBeNilOrNot(t *testing.T) {
	for _, b := range []api.Bits{{}, {Bytes: []byte{}}} {
		got, err := bits.Put(b, 1, 1)
		sample.WantBits(t, "Put", got, err, "1", api.OK)
		got, err = bits.Join(b, sample.Bits("01"))
		sample.WantBits(t, "Join", got, err, "01", api.OK)
		got, err = bits.Join(sample.Bits("01"), b)
		sample.WantBits(t, "Join", got, err, "01", api.OK)
		got, err = bits.Cut(b, 0, 0)
		sample.WantBits(t, "Cut", got, err, "", api.OK)
		n, err := bits.Get(b, 0, 0)
		wantNumber(t, "Get", n, err, 0, api.OK)
	}
}

func TestP3EachCallIsByItself(t *testing.T) {
	for n := range 30 {
		text := sample.Mixed(n)
		for range 3 {
			got, err := bits.Put(sample.Bits(text), 5, 3)
			sample.WantBits(t, "Put", got, err, text+"101", api.OK)
			sample.Scribble(got)
			got, err = bits.Join(sample.Bits(text), sample.Bits("0011"))
			sample.WantBits(t, "Join", got, err, text+"0011", api.OK)
			sample.Scribble(got)
			got, err = bits.Cut(sample.Bits(text), n/2, n)
			sample.WantBits(t, "Cut", got, err, text[n/2:], api.OK)
			sample.Scribble(got)
			_, err = bits.Put(sample.Bits(text), 5, 2)
			if err != api.ErrRange {
				t.Errorf("Put: %d", err)
			}
			m, err := bits.Get(sample.Bits(text), 0, n)
			wantNumber(t, "Get", m, err, number(t, text), api.OK)
		}
	}
}

func TestP4HoldsForMuch(t *testing.T) {
	much := api.Bits{Len: api.MaxLen, Bytes: make([]byte, 1<<26)}
	got, err := bits.Put(much, 0, 0)
	sample.WantBits(t, "Put to many bytes", got, err, "", api.ErrForm)
	got, err = bits.Join(api.Bits{}, much)
	sample.WantBits(t, "Join of many bytes", got, err, "", api.ErrForm)
	got, err = bits.Cut(much, 0, 0)
	sample.WantBits(t, "Cut of many bytes", got, err, "", api.ErrForm)
	n, err := bits.Get(much, 0, 0)
	wantNumber(t, "Get from many bytes", n, err, 0, api.ErrForm)

	grown, err := api.Bits{}, api.OK
	for range api.MaxLen {
		if grown, err = bits.Put(grown, uint64(grown.Len%2), 1); err != api.OK {
			t.Fatalf("Put at %d: %d", grown.Len, err)
		}
	}
	if grown.Len != api.MaxLen || bits.Check(grown) != api.OK {
		t.Errorf("%d bits one by one: %d", api.MaxLen, grown.Len)
	}
}
