package golomb

import (
	mathbits "math/bits"

	"lampwright/api"
	"lampwright/bits"
	"lampwright/unary"
)

// The m of these functions is at least 1 and can be greater than MaxNum: those of Zeta are.

// sizes returns the number of bits that are enough for all numbers less than m, and how many of these numbers need one bit less.
func sizes(m uint64) (width int, short uint64) {
	width = mathbits.Len64(m - 1)
	return width, 1<<width - m
}

// putLeast appends n, which is less than m, written with as few bits as possible.
func putLeast(b api.Bits, n, m uint64) (api.Bits, api.Errno) {
	width, short := sizes(m)
	if n < short {
		return bits.Put(b, n, width-1)
	}
	return bits.Put(b, n+short, width)
}

// getLeast reads a number less than m from position at on, and returns it and the position after it.
func getLeast(b api.Bits, at int, m uint64) (uint64, int, api.Errno) {
	width, short := sizes(m)
	// An error here says nothing yet: m = 1 has no short numbers, and too few bits for one are too few for any other.
	if n, err := bits.Get(b, at, width-1); err == api.OK && n < short {
		return n, at + width - 1, api.OK
	}
	n, err := bits.Get(b, at, width)
	if err != api.OK {
		return 0, 0, err
	}
	return n - short, at + width, api.OK
}

// putParts returns the unary code of head, followed by n as in putLeast.
func putParts(head, n, m uint64) (api.Bits, api.Errno) {
	start, err := unary.Code(head)
	if err != api.OK {
		return api.Bits{}, err
	}
	return putLeast(start, n, m)
}
