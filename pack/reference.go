package pack

import "lampwright/api"

// farthest returns how many places before a node its reference can be.
func farthest(h api.How, node int) int { return min(h.Back, node) }

// reference returns the list that is that many places before a node; 0 means that there is none.
func reference(node, back int, next [][]int) []int {
	if back == 0 {
		return nil
	}
	return next[node-back]
}

// with returns the way of encoding for a node whose reference is that many places before it.
func with(h api.How, back int) api.How {
	h.Back = back
	return h
}
