package sample

import (
	"slices"

	"lampwright/api"
)

// edge is how many elements of memory there are before a list, and behind its length.
const edge = 16

// Memory has a list in the middle of memory of which a function may change nothing.
type Memory[E comparable] struct {
	List        []E
	whole, kept []E
}

// Around returns a list with memory before it and behind its length, all of it filled with one element.
func Around[E comparable](list []E, filling E) Memory[E] {
	margin := slices.Repeat([]E{filling}, edge)
	whole := slices.Concat(margin, list, margin)
	return Memory[E]{List: whole[edge : edge+len(list)], whole: whole, kept: slices.Clone(whole)}
}

// Changed reports whether the list or the memory around it is not as it was.
func (m Memory[E]) Changed() bool { return !slices.Equal(m.whole, m.kept) }

// Guard has bits whose bytes are in the middle of such memory.
type Guard struct {
	Bits api.Bits
	Memory[byte]
}

// Guarded returns the bits of a text with memory around them.
func Guarded(text string) Guard {
	m := Around(Bits(text).Bytes, 0xa5)
	return Guard{api.Bits{Len: len(text), Bytes: m.List}, m}
}

// Scribble changes each byte of a result, and the memory behind its length.
func Scribble(result api.Bits) { Flip(result.Bytes) }

// Flip changes each element of a result, and the memory behind its length.
func Flip[E ~byte | ~int | ~uint64](result []E) {
	all := result[:cap(result)]
	for i := range all {
		all[i] = ^all[i]
	}
}
