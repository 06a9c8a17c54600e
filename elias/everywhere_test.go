package elias_test

import (
	"math"
	"testing"

	"lampwright/api"
	"lampwright/bits"
	"lampwright/elias"
	"lampwright/internal/sample"
)

func TestP1ReturnsForAllArguments(t *testing.T) {
	gamma().WantNothingBesideErrors(t)
	delta().WantNothingBesideErrors(t)
	for _, n := range []uint64{0, 1, api.MaxNum, api.MaxNum + 1, 1 << 63, math.MaxUint64} {
		for _, write := range []func(uint64) (api.Bits, api.Errno){elias.Gamma, elias.Delta} {
			code, err := write(n)
			if bits.Check(code) != api.OK || err != api.OK && code.Len != 0 {
				t.Errorf("%v beside the error %d", code, err)
			}
		}
	}
}

func TestP2ArgumentsStayAsTheyAre(t *testing.T) {
	gamma().WantArgumentsKept(t)
	delta().WantArgumentsKept(t)
}

func TestP2EmptyListsCanBeNilOrNot(t *testing.T) {
	for _, b := range []api.Bits{{}, {Bytes: []byte{}}} {
		sample.WantRead(t, "ReadGamma", elias.ReadGamma, b, 0, 0, 0, api.ErrShort)
		sample.WantRead(t, "ReadDelta", elias.ReadDelta, b, 0, 0, 0, api.ErrShort)
	}
}

// A result that a later call could observe would carry the scribbling into it.
func TestP3EachCallIsByItself(t *testing.T) {
	for range 3 {
		for _, n := range []uint64{0, 6, 255, 256, api.MaxNum} {
			code, err := elias.Gamma(n)
			sample.WantBits(t, "Gamma", code, err, sample.Gamma(n), api.OK)
			sample.WantRead(t, "ReadGamma", elias.ReadGamma, code, 0, n, code.Len, api.OK)
			sample.Scribble(code)
			code, err = elias.Delta(n)
			sample.WantBits(t, "Delta", code, err, spellDelta(n), api.OK)
			sample.WantRead(t, "ReadDelta", elias.ReadDelta, code, 0, n, code.Len, api.OK)
			sample.Scribble(code)
			wantLong(t, n, len(sample.Gamma(n)), len(spellDelta(n)), api.OK)
		}
	}
}

func TestP4HoldsForMuch(t *testing.T) {
	much := api.Bits{Len: api.MaxLen, Bytes: make([]byte, 1<<26)}
	sample.WantRead(t, "ReadGamma", elias.ReadGamma, much, 0, 0, 0, api.ErrForm)
	sample.WantRead(t, "ReadDelta", elias.ReadDelta, much, 0, 0, 0, api.ErrForm)
}
