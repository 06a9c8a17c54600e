// Package union has what several layers put together in the same way.
package union

import (
	"slices"

	"lampwright/api"
)

// Of returns the increasing list of all numbers of two increasing lists, which may be longer than a list can be.
func Of(a, b []int) ([]int, api.Errno) {
	l := slices.Concat(a, b)
	slices.Sort(l)
	if hasTwice(l) {
		return nil, api.ErrTwice
	}
	if len(l) > api.MaxList {
		return nil, api.ErrMany
	}
	return l, api.OK
}

// hasTwice reports whether two neighbours in a list are equal.
func hasTwice(l []int) bool {
	for i := 1; i < len(l); i++ {
		if l[i] == l[i-1] {
			return true
		}
	}
	return false
}
