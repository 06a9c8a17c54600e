// Package entry has how several layers read the bits of one node of a packed graph.
package entry

import (
	"lampwright/api"
	"lampwright/elias"
	"lampwright/internal/check"
	"lampwright/succ"
)

// Read returns the list of a node whose bits begin at position at, and the position after them. If another list is its reference, listOf is asked for the list of that node.
func Read(p api.Packed, at, node int, listOf func(node int) []int) ([]int, int, api.Errno) {
	back, at, err := readBack(p, at, node)
	if err != api.OK {
		return nil, 0, err
	}
	var from []int
	if back > 0 {
		from = listOf(node - back)
	}
	return succ.Read(p.Bits, at, node, from, With(p.How, back))
}

// readBack returns how many places before a node its reference is, if this has been written, and the position after it.
func readBack(p api.Packed, at, node int) (int, int, api.Errno) {
	if p.How.Back == 0 {
		return 0, at, api.OK
	}
	back, after, err := elias.ReadGamma(p.Bits, at)
	if err := check.Range(err, back <= uint64(Farthest(p.How, node))); err != api.OK {
		return 0, 0, err
	}
	return int(back), after, api.OK
}

// Farthest returns how many places before a node its reference can be.
func Farthest(h api.How, node int) int { return min(h.Back, node) }

// With returns the way of encoding for a node whose reference is that many places before it; 0 means that there is none.
func With(h api.How, back int) api.How {
	h.Back = back
	return h
}
