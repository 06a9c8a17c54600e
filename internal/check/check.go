// Package check has what several layers check in the same way.
package check

import (
	"bytes"
	"slices"

	"lampwright/api"
)

// maxK is the greatest k of Zeta codes.
const maxK = 16

// minLeast is the least number of numbers that a run can be asked to have.
const minLeast = 2

// Range returns the error that was found before, if any; else ErrRange if one of the further conditions does not hold.
func Range(before api.Errno, further ...bool) api.Errno {
	if before == api.OK && slices.Contains(further, false) {
		return api.ErrRange
	}
	return before
}

// Node reports whether n is from 0 to MaxNode, as the elements of lists are.
func Node(n int) bool { return 0 <= n && n <= api.MaxNode }

// K reports whether there is a Zeta code with k.
func K(k int) bool { return 1 <= k && k <= maxK }

// Least reports whether runs can be asked to have at least n numbers.
func Least(n int) bool { return minLeast <= n && n <= api.MaxList }

// SameBits reports whether two sequences have the same number of bits and the same bytes.
func SameBits(a, b api.Bits) bool { return a.Len == b.Len && bytes.Equal(a.Bytes, b.Bytes) }

// Rising returns the error of the first element of a list that has one: it may not stand there, as no number less than 0 may, or it is not greater than the one before.
func Rising(l []int, may func(int) bool) api.Errno { return inSteps(l, 1, may) }

// NotDecreasing returns the error of the first element of a list that has one, as Rising does, except that an element can be equal to the one before.
func NotDecreasing(l []int, may func(int) bool) api.Errno { return inSteps(l, 0, may) }

// inSteps returns the error of the first element of a list that has one: it may not stand there, or it is not greater by step or more than the one before.
func inSteps(l []int, step int, may func(int) bool) api.Errno {
	before := -1
	return Each(l, func(n int) api.Errno {
		if !may(n) {
			return api.ErrRange
		}
		if n < before+step {
			return api.ErrState
		}
		before = n
		return api.OK
	})
}

// Each returns the error of the first element of a list that has one.
func Each[E any](l []E, errorOf func(E) api.Errno) api.Errno {
	for _, element := range l {
		if err := errorOf(element); err != api.OK {
			return err
		}
	}
	return api.OK
}
