package huff

import (
	"cmp"
	"slices"
)

// group has symbols, the smallest of them, and the sum of their frequencies.
type group struct {
	weight, least int
	symbols       []int
}

// groupsOf returns a group of one symbol for each symbol with a frequency other than 0.
func groupsOf(often []int) []group {
	var groups []group
	for symbol, n := range often {
		if n > 0 {
			groups = append(groups, group{n, symbol, []int{symbol}})
		}
	}
	return groups
}

// deepen makes the groups into one, and returns how many bits each of the symbols from 0 to many - 1 gets.
func deepen(groups []group, many int) []int {
	l := make([]int, many)
	// Nothing is joined with a single group, but its symbol has to be seen in the code.
	if len(groups) == 1 {
		l[groups[0].least] = 1
	}
	for len(groups) > 1 {
		slices.SortFunc(groups, func(a, b group) int {
			return cmp.Or(cmp.Compare(a.weight, b.weight), cmp.Compare(a.least, b.least))
		})
		both := join(groups[0], groups[1])
		for _, symbol := range both.symbols {
			l[symbol]++
		}
		groups = append(groups[2:], both)
	}
	return l
}

// join returns the group of the symbols of two groups.
func join(a, b group) group {
	return group{a.weight + b.weight, min(a.least, b.least), slices.Concat(a.symbols, b.symbols)}
}
