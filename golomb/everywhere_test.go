package golomb_test

import (
	"math"
	"testing"

	"lampwright/api"
	"lampwright/bits"
	"lampwright/golomb"
	"lampwright/internal/sample"
)

// readers returns the functions that read, with m also as k.
func readers(m uint64) []sample.Kind { return []sample.Kind{least(m), code(m), zeta(int(m))} }

// write calls each function that writes, with m also as k.
func write(n, m uint64) ([]api.Bits, []api.Errno) {
	a, e := golomb.Least(n, m)
	b, f := golomb.Code(n, m)
	c, g := golomb.Zeta(n, int(m))
	return []api.Bits{a, b, c}, []api.Errno{e, f, g}
}

func TestP1ReturnsForAllArguments(t *testing.T) {
	odd := []int{math.MinInt, -1, 0, 1, 2, 3, 16, 17, api.MaxLen - 1, api.MaxLen, api.MaxLen + 1, api.MaxNum, api.MaxNum + 1, math.MaxInt}
	for _, x := range odd {
		for _, k := range readers(uint64(x)) {
			k.WantNothingBesideErrors(t)
		}
		for _, y := range odd {
			codes, errs := write(uint64(x), uint64(y))
			for i, b := range codes {
				if bits.Check(b) != api.OK || errs[i] != api.OK && b.Len != 0 {
					t.Errorf("writer %d of %d and %d: %v beside the error %d", i, x, y, b, errs[i])
				}
			}
		}
	}
}

func TestP2ArgumentsStayAsTheyAre(t *testing.T) {
	for _, m := range []uint64{1, 2, 3, 7, 16, 1 << 20} {
		for _, k := range readers(m) {
			k.WantArgumentsKept(t)
		}
	}
}

func TestP2EmptyListsCanBeNilOrNot(t *testing.T) {
	for _, b := range []api.Bits{{}, {Bytes: []byte{}}} {
		for _, k := range readers(2) {
			sample.WantRead(t, k.Name, k.Read, b, 0, 0, 0, api.ErrShort)
		}
		sample.WantRead(t, "ReadLeast with 1", least(1).Read, b, 0, 0, 0, api.OK)
	}
}

// A result that a later call could observe would carry the scribbling into it.
func TestP3EachCallIsByItself(t *testing.T) {
	for range 3 {
		for _, m := range []uint64{3, 10, 16} {
			codes, _ := write(m-1, m)
			for i, k := range readers(m) {
				sample.WantBits(t, "the writer of "+k.Name, codes[i], api.OK, k.Spell(m-1), api.OK)
				sample.WantRead(t, k.Name, k.Read, codes[i], 0, m-1, codes[i].Len, api.OK)
			}
			for _, b := range codes {
				sample.Scribble(b)
			}
		}
	}
}

func TestP4HoldsForMuch(t *testing.T) {
	much := api.Bits{Len: api.MaxLen, Bytes: make([]byte, 1<<26)}
	for _, k := range readers(2) {
		sample.WantRead(t, k.Name, k.Read, much, 0, 0, 0, api.ErrForm)
	}
}
