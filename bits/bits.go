// Package bits: sequences of bits in bytes: see doc/01-bits.md.
package bits

import (
	"iter"

	"lampwright/api"
)

// maxWidth is the number of bits of the widest number, a uint64.
const maxWidth = 64

// Check validates a sequence of bits.
func Check(b api.Bits) api.Errno {
	if b.Len < 0 || b.Len > api.MaxLen {
		return api.ErrRange
	}
	if len(b.Bytes) != (b.Len+7)/8 || hasStrayBit(b) {
		return api.ErrForm
	}
	return api.OK
}

// hasStrayBit reports whether a bit after the last one is not 0.
func hasStrayBit(b api.Bits) bool {
	used := b.Len % 8
	return used != 0 && b.Bytes[len(b.Bytes)-1]<<used != 0
}

// Put appends the number n, written with width bits, the highest one first.
func Put(b api.Bits, n uint64, width int) (api.Bits, api.Errno) {
	if err := Check(b); err != api.OK {
		return api.Bits{}, err
	}
	if width < 0 || width > maxWidth || n>>width != 0 {
		return api.Bits{}, api.ErrRange
	}
	if b.Len+width > api.MaxLen {
		return api.Bits{}, api.ErrFull
	}
	w := copyOf(b)
	for place := width - 1; place >= 0; place-- {
		w.addBit(byte(n >> place & 1))
	}
	return w.Bits, api.OK
}

// Get returns the number that is written in the width bits from position at on.
func Get(b api.Bits, at, width int) (uint64, api.Errno) {
	if err := Check(b); err != api.OK {
		return 0, err
	}
	if width < 0 || width > maxWidth || at < 0 || at > b.Len {
		return 0, api.ErrRange
	}
	if b.Len-at < width {
		return 0, api.ErrShort
	}
	n := uint64(0)
	for bit := range bitsOf(b, at, at+width) {
		n = n<<1 | uint64(bit)
	}
	return n, api.OK
}

// Join returns the bits of a followed by those of b.
func Join(a, b api.Bits) (api.Bits, api.Errno) {
	if err := Check(a); err != api.OK {
		return api.Bits{}, err
	}
	if err := Check(b); err != api.OK {
		return api.Bits{}, err
	}
	if a.Len+b.Len > api.MaxLen {
		return api.Bits{}, api.ErrFull
	}
	w := copyOf(a)
	w.addBits(b, 0, b.Len)
	return w.Bits, api.OK
}

// Cut returns the bits from position from up to, but not including, position to.
func Cut(b api.Bits, from, to int) (api.Bits, api.Errno) {
	if err := Check(b); err != api.OK {
		return api.Bits{}, err
	}
	if from < 0 || to < from || to > b.Len {
		return api.Bits{}, api.ErrRange
	}
	w := writer{}
	w.addBits(b, from, to)
	return w.Bits, api.OK
}

// bitsOf visits the bits at the positions from from up to, but not including, to.
func bitsOf(b api.Bits, from, to int) iter.Seq[byte] {
	return func(yield func(byte) bool) {
		for at := from; at < to; at++ {
			if !yield(b.Bytes[at/8] >> (7 - at%8) & 1) {
				return
			}
		}
	}
}
