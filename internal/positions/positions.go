// Package positions has how several layers visit the positions of bits.
package positions

import (
	"iter"

	"lampwright/api"
	"lampwright/bits"
)

// Of visits the positions from from up to, but not including, to at which b has bits with the value bit.
func Of(b api.Bits, bit uint64, from, to int) iter.Seq[int] {
	return func(yield func(int) bool) {
		for at := from; at < to; at++ {
			if value, err := bits.Get(b, at, 1); err == api.OK && value == bit && !yield(at) {
				return
			}
		}
	}
}
