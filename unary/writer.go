package unary

import (
	"lampwright/api"
	"lampwright/bits"
)

// chunk is the greatest number of bits that bits.Put appends in one call.
const chunk = 64

// writer appends codes to bits.
type writer struct {
	api.Bits
}

// add appends the code of a number less than MaxLen.
func (w *writer) add(n uint64) api.Errno {
	if uint64(api.MaxLen-w.Len) <= n {
		return api.ErrFull
	}
	zeros := int(n)
	for ; zeros >= chunk; zeros -= chunk {
		w.put(0, chunk)
	}
	// The number 1 with one bit more than there are zeros left is these zeros and the 1 bit.
	w.put(1, zeros+1)
	return api.OK
}

// put appends a number that fits, so that bits.Put has no error to return.
func (w *writer) put(n uint64, width int) {
	w.Bits, _ = bits.Put(w.Bits, n, width)
}
