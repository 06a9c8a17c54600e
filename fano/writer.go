package fano

import (
	"lampwright/api"
	"lampwright/bits"
)

// chunk is the greatest number of bits that bits.Put appends in one call.
const chunk = 64

// writer appends to bits. There is room for all that is written, so that bits.Put has no error to return.
type writer struct {
	api.Bits
}

// put appends a number, written with width bits.
func (w *writer) put(n uint64, width int) {
	w.Bits, _ = bits.Put(w.Bits, n, width)
}

// fill appends 0 bits up to, but not including, position to.
func (w *writer) fill(to int) {
	for w.Len < to {
		w.put(0, min(to-w.Len, chunk))
	}
}
