package succ

import (
	"testing"

	"lampwright/api"
	"lampwright/bits"
)

// No list that is allowed is too long for bits, so that a writer has to be filled by hand.
func TestL2WriterKeepsItsFirstError(t *testing.T) {
	full := api.Bits{Len: api.MaxLen, Bytes: make([]byte, api.MaxLen/8)}
	w := writer{}
	w.add(full, api.OK)
	w.addNumber(0)
	if w.err != api.ErrFull || w.standsAt(full, 0) {
		t.Errorf("the error of a full writer is %d", w.err)
	}
	w.add(api.Bits{}, api.ErrMany)
	w.addNumber(0)
	if w.err != api.ErrFull {
		t.Errorf("the error of a full writer becomes %d", w.err)
	}
	w = writer{}
	w.add(bits.Put(full, 0, 1))
	w.addNumber(0)
	if w.err != api.ErrFull || w.Len != 0 {
		t.Errorf("the error of a code becomes %d", w.err)
	}
}

// What a reader does not expect is no list, either: a reader that is nil has no bits to look at.
func TestP1ReaderRecoversFromAnyPanic(t *testing.T) {
	var none *reader
	if l, after, err := none.read(5, nil, api.How{K: 1}); len(l) != 0 || after != 0 || err != api.ErrForm {
		t.Errorf("a reader that is nil: %v %d %d", l, after, err)
	}
}
