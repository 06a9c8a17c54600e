// Package check has what several layers check in the same way.
package check

import (
	"slices"

	"lampwright/api"
)

// Range returns the error that was found before, if any; else ErrRange if one of the further conditions does not hold.
func Range(before api.Errno, further ...bool) api.Errno {
	if before == api.OK && slices.Contains(further, false) {
		return api.ErrRange
	}
	return before
}

// Each returns the error of the first element of a list that has one.
func Each[E any](l []E, errorOf func(E) api.Errno) api.Errno {
	for _, element := range l {
		if err := errorOf(element); err != api.OK {
			return err
		}
	}
	return api.OK
}
