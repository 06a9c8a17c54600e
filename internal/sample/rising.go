package sample

import (
	"math"
	"slices"
	"strings"

	"lampwright/api"
)

// Rising returns all increasing lists of numbers less than n.
func Rising(n int) [][]int {
	all := [][]int{nil}
	for number := range n {
		for _, l := range slices.Clone(all) {
			all = append(all, append(l[:len(l):len(l)], number))
		}
	}
	return all
}

// Steps returns many numbers from first on, each greater by step than the one before.
func Steps(first, step, many int) []int {
	l := make([]int, many)
	for i := range l {
		l[i] = first + i*step
	}
	return l
}

// EdgeLists returns increasing lists with as many elements, and elements as great, as there may be, and others near to them.
func EdgeLists() [][]int {
	const most, top = api.MaxList, api.MaxNode
	return [][]int{
		{0},
		{top},
		{0, top},
		{top - 1, top},
		{0, 1, top - 1, top},
		{5, 1000, top / 2, top/2 + 1, top - 7},
		Steps(0, 1, most-1),
		Steps(0, 1, most),
		Steps(top-most+1, 1, most),
		Steps(17, 2, most),
		Steps(1, top/most, most),
		slices.Concat(Steps(0, 1, most/2), Steps(top-most/2+1, 1, most/2)),
	}
}

// Distances returns the gaps of an increasing list relative to a number: Fold counts the numbers 0, -1, 1, -2, 2, and so on.
func Distances(l []int, at int) []uint64 {
	var g []uint64
	for i, n := range l {
		switch {
		case i > 0:
			g = append(g, uint64(n-1-l[i-1]))
		case n >= at:
			g = append(g, uint64(2*(n-at)))
		default:
			g = append(g, uint64(2*(at-n)-1))
		}
	}
	return g
}

// Gaps spells these gaps as Zeta codes with k.
func Gaps(l []int, at, k int) string {
	var text strings.Builder
	for _, gap := range Distances(l, at) {
		text.WriteString(Zeta(gap, k))
	}
	return text.String()
}

// Split returns the runs of an increasing list with at least least numbers, and all other numbers: it looks for each number how far its run leads in both directions.
func Split(l []int, least int) ([]api.Run, []int) {
	var long []api.Run
	var rest []int
	for _, n := range l {
		from, after := n, n
		for slices.Contains(l, from-1) {
			from--
		}
		for slices.Contains(l, after) {
			after++
		}
		switch {
		case after-from < least:
			rest = append(rest, n)
		case n == from:
			long = append(long, api.Run{From: from, Many: after - from})
		}
	}
	return long, rest
}

// OddLists returns right and wrong increasing lists.
func OddLists() [][]int {
	all := append(EdgeLists(), nil, []int{}, []int{2, 4, 5, 20}, []int{2, 3, 4, 5, 9, 20}, []int{math.MaxInt, math.MinInt})
	for _, w := range WrongLists() {
		all = append(all, w.List)
	}
	return all
}

// WrongList is one that is not increasing, and the error that says so.
type WrongList struct {
	List []int
	Err  api.Errno
}

// WrongLists returns lists with each error that increasing lists can have.
func WrongLists() []WrongList {
	const most, top = api.MaxList, api.MaxNode
	all := []WrongList{
		{Steps(0, 1, most+1), api.ErrMany},
		{make([]int, most+1), api.ErrMany},
		{Steps(-1, 1, most+1), api.ErrMany},
		{Steps(top, 1, most+1), api.ErrMany},
		{make([]int, 10*most), api.ErrMany},
		{make([]int, most), api.ErrState},
		{Steps(most, -1, most), api.ErrState},
		{Steps(most-2, -1, most), api.ErrState},
		{Steps(top-most+2, 1, most), api.ErrRange},
		{[]int{3, 3}, api.ErrState},
		{[]int{4, 3}, api.ErrState},
		{[]int{0, 0}, api.ErrState},
		{[]int{top, top}, api.ErrState},
		{[]int{top, 0}, api.ErrState},
		{[]int{3, top + 1}, api.ErrRange},
		// The first element with an error determines it, and of its errors it is ErrRange.
		{[]int{5, 4, -1}, api.ErrState},
		{[]int{5, 5, top + 1}, api.ErrState},
		{[]int{5, -1, 4}, api.ErrRange},
		{[]int{-1, -1}, api.ErrRange},
		{[]int{top + 1, 4}, api.ErrRange},
		{[]int{0, top + 1, 0}, api.ErrRange},
	}
	for _, bad := range []int{math.MinInt, -top, -1, top + 1, 2 * top, math.MaxInt} {
		for _, at := range []int{0, 1, most / 2, most - 1} {
			l := Steps(10, 2, most)
			l[at] = bad
			all = append(all, WrongList{l, api.ErrRange}, WrongList{l[:at+1], api.ErrRange})
		}
	}
	for _, at := range []int{1, 2, most / 2, most - 1} {
		for _, less := range []int{2, 3} {
			l := Steps(10, 2, most)
			l[at] -= less
			all = append(all, WrongList{l, api.ErrState}, WrongList{l[:at+1], api.ErrState})
		}
	}
	return all
}
