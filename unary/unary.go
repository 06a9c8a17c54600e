// Package unary: unary codes: see doc/02-unary.md.
package unary

import (
	"slices"

	"lampwright/api"
	"lampwright/bits"
	"lampwright/internal/positions"
)

// Code returns n 0 bits, followed by a 1 bit.
func Code(n uint64) (api.Bits, api.Errno) {
	return Many([]uint64{n})
}

// Read returns the number whose code begins at position at, and the position after the code.
func Read(b api.Bits, at int) (uint64, int, api.Errno) {
	if err := bits.Check(b); err != api.OK {
		return 0, 0, err
	}
	if at < 0 || at > b.Len {
		return 0, 0, api.ErrRange
	}
	for end := range positions.Of(b, 1, at, b.Len) {
		return uint64(end - at), end + 1, api.OK
	}
	return 0, 0, api.ErrShort
}

// Many returns the codes of several numbers, one after the other.
func Many(l []uint64) (api.Bits, api.Errno) {
	// All numbers come first: one that is out of range counts even behind the place where the room ends.
	if slices.ContainsFunc(l, outOfRange) {
		return api.Bits{}, api.ErrRange
	}
	w := writer{}
	for _, n := range l {
		if err := w.add(n); err != api.OK {
			return api.Bits{}, err
		}
	}
	return w.Bits, api.OK
}

// All reads many numbers from the beginning, and returns them and the position after them.
func All(b api.Bits, many int) ([]uint64, int, api.Errno) {
	if err := bits.Check(b); err != api.OK {
		return nil, 0, err
	}
	if many < 0 || many > api.MaxLen {
		return nil, 0, api.ErrRange
	}
	var l []uint64
	after := 0
	for end := range positions.Of(b, 1, 0, b.Len) {
		if len(l) == many {
			break
		}
		l = append(l, uint64(end-after))
		after = end + 1
	}
	if len(l) < many {
		return nil, 0, api.ErrShort
	}
	return l, after, api.OK
}

// outOfRange reports whether the code of n would have more than MaxLen bits.
func outOfRange(n uint64) bool { return n >= api.MaxLen }
