package unary_test

import (
	"math"
	"slices"
	"testing"

	"lampwright/api"
	"lampwright/bits"
	"lampwright/internal/sample"
	"lampwright/unary"
)

func TestP1ReturnsForAllArguments(t *testing.T) {
	all := []api.Bits{{}, sample.Bits("0"), sample.Bits("1"), sample.Bits(sample.Mixed(api.MaxLen))}
	for _, w := range sample.WrongBits() {
		all = append(all, w.Bits)
	}
	odd := []int{math.MinInt, -1, 0, 1, 8, api.MaxLen - 1, api.MaxLen, api.MaxLen + 1, math.MaxInt}
	for _, x := range odd {
		for _, b := range all {
			if n, after, err := unary.Read(b, x); err != api.OK && (n != 0 || after != 0) {
				t.Errorf("Read: %d %d beside the error %d", n, after, err)
			}
			if l, after, err := unary.All(b, x); err != api.OK && (len(l) != 0 || after != 0) {
				t.Errorf("All: %v %d beside the error %d", l, after, err)
			}
		}
		code, err := unary.Code(uint64(x))
		if bits.Check(code) != api.OK || err != api.OK && code.Len != 0 {
			t.Errorf("Code: %v beside the error %d", code, err)
		}
		for _, y := range odd {
			code, err = unary.Many([]uint64{uint64(x), uint64(y)})
			if bits.Check(code) != api.OK || err != api.OK && code.Len != 0 {
				t.Errorf("Many: %v beside the error %d", code, err)
			}
		}
	}
}

func TestP2ArgumentsStayAsTheyAre(t *testing.T) {
	for n := range 40 {
		g := sample.Guarded(sample.Mixed(n))
		for many := range n + 1 {
			unary.Read(g.Bits, many)
			l, _, _ := unary.All(g.Bits, many)
			clear(l[:cap(l)])
		}
		if g.Changed() {
			t.Fatalf("an argument of %d bits is changed", n)
		}
	}
	memory := []uint64{3, 0, 2, 9, 9}
	for n := range len(memory) {
		got, _ := unary.Many(memory[:n])
		sample.Scribble(got)
	}
	if !slices.Equal(memory, []uint64{3, 0, 2, 9, 9}) {
		t.Errorf("the list is changed: %v", memory)
	}
}

func TestP2EmptyListsCanBeNilOrNot(t *testing.T) {
	for _, b := range []api.Bits{{}, {Bytes: []byte{}}} {
		sample.WantRead(t, "Read", unary.Read, b, 0, 0, 0, api.ErrShort)
		wantAll(t, b, 0, nil, 0, api.OK)
	}
	for _, l := range [][]uint64{nil, {}} {
		got, err := unary.Many(l)
		sample.WantBits(t, "Many", got, err, "", api.OK)
	}
}

func TestP3EachCallIsByItself(t *testing.T) {
	for range 3 {
		code, err := unary.Code(70)
		sample.WantBits(t, "Code", code, err, sample.Unary(70), api.OK)
		sample.Scribble(code)
		code, err = unary.Many([]uint64{4, 0, 9})
		sample.WantBits(t, "Many", code, err, "0000110000000001", api.OK)
		sample.WantRead(t, "Read", unary.Read, code, 5, 0, 6, api.OK)
		sample.WantRead(t, "Read", unary.Read, code, 0, 4, 5, api.OK)
		wantAll(t, code, 2, []uint64{4, 0}, 6, api.OK)
		wantAll(t, code, 3, []uint64{4, 0, 9}, 16, api.OK)
		sample.Scribble(code)
	}
}

func TestP4HoldsForMuch(t *testing.T) {
	much := make([]uint64, 1<<22)
	got, err := unary.Many(much)
	sample.WantBits(t, "Many of a long list", got, err, "", api.ErrFull)
	much[len(much)-1] = math.MaxUint64
	got, err = unary.Many(much)
	sample.WantBits(t, "Many of a long list", got, err, "", api.ErrRange)

	bytes := api.Bits{Len: api.MaxLen, Bytes: make([]byte, 1<<26)}
	sample.WantRead(t, "Read", unary.Read, bytes, 0, 0, 0, api.ErrForm)
	wantAll(t, bytes, 0, nil, 0, api.ErrForm)
}
