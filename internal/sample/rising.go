package sample

import (
	"math"
	"slices"

	"lampwright/api"
)

// Rising returns all increasing lists of numbers less than n.
func Rising(n int) [][]int {
	all := [][]int{nil}
	for number := range n {
		for _, l := range slices.Clone(all) {
			all = append(all, append(l[:len(l):len(l)], number))
		}
	}
	return all
}

// Steps returns many numbers from first on, each greater by step than the one before.
func Steps(first, step, many int) []int {
	l := make([]int, many)
	for i := range l {
		l[i] = first + i*step
	}
	return l
}

// EdgeLists returns increasing lists with as many elements, and elements as great, as there may be, and others near to them.
func EdgeLists() [][]int {
	const most, top = api.MaxList, api.MaxNode
	return [][]int{
		{0},
		{top},
		{0, top},
		{top - 1, top},
		{0, 1, top - 1, top},
		{5, 1000, top / 2, top/2 + 1, top - 7},
		Steps(0, 1, most-1),
		Steps(0, 1, most),
		Steps(top-most+1, 1, most),
		Steps(17, 2, most),
		Steps(1, top/most, most),
		slices.Concat(Steps(0, 1, most/2), Steps(top-most/2+1, 1, most/2)),
	}
}

// WrongList is one that is not increasing, and the error that says so.
type WrongList struct {
	List []int
	Err  api.Errno
}

// WrongLists returns lists with each error that increasing lists can have.
func WrongLists() []WrongList {
	const most, top = api.MaxList, api.MaxNode
	all := []WrongList{
		{Steps(0, 1, most+1), api.ErrMany},
		{make([]int, most+1), api.ErrMany},
		{Steps(-1, 1, most+1), api.ErrMany},
		{Steps(top, 1, most+1), api.ErrMany},
		{make([]int, 10*most), api.ErrMany},
		{make([]int, most), api.ErrState},
		{Steps(most, -1, most), api.ErrState},
		{Steps(most-2, -1, most), api.ErrState},
		{Steps(top-most+2, 1, most), api.ErrRange},
		{[]int{3, 3}, api.ErrState},
		{[]int{4, 3}, api.ErrState},
		{[]int{0, 0}, api.ErrState},
		{[]int{top, top}, api.ErrState},
		{[]int{top, 0}, api.ErrState},
		{[]int{3, top + 1}, api.ErrRange},
		// The first element with an error determines it, and of its errors it is ErrRange.
		{[]int{5, 4, -1}, api.ErrState},
		{[]int{5, 5, top + 1}, api.ErrState},
		{[]int{5, -1, 4}, api.ErrRange},
		{[]int{-1, -1}, api.ErrRange},
		{[]int{top + 1, 4}, api.ErrRange},
		{[]int{0, top + 1, 0}, api.ErrRange},
	}
	for _, bad := range []int{math.MinInt, -top, -1, top + 1, 2 * top, math.MaxInt} {
		for _, at := range []int{0, 1, most / 2, most - 1} {
			l := Steps(10, 2, most)
			l[at] = bad
			all = append(all, WrongList{l, api.ErrRange}, WrongList{l[:at+1], api.ErrRange})
		}
	}
	for _, at := range []int{1, 2, most / 2, most - 1} {
		for _, less := range []int{2, 3} {
			l := Steps(10, 2, most)
			l[at] -= less
			all = append(all, WrongList{l, api.ErrState}, WrongList{l[:at+1], api.ErrState})
		}
	}
	return all
}
