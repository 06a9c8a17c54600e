package sample

import (
	"cmp"
	"slices"

	"lampwright/api"
)

// Pack spells a graph, and returns for each node how many places before it its reference is, and where its text begins: each node is spelled with each reference that there can be, and the first one of the shortest texts is that of the node.
func Pack(g api.Graph, h api.How) (string, []int, []int) {
	text := ""
	var backs, starts []int
	for node := range g.Next {
		var all []string
		for back := 0; back <= h.Back && back <= node; back++ {
			all = append(all, PackNode(g, node, back, h))
		}
		shortest := slices.MinFunc(all, func(a, b string) int { return cmp.Compare(len(a), len(b)) })
		backs = append(backs, slices.Index(all, shortest))
		starts = append(starts, len(text))
		text += shortest
	}
	return text, backs, starts
}

// PackNode spells a node whose reference is that many places before it, or has no place, if that is 0.
func PackNode(g api.Graph, node, back int, h api.How) string {
	code := Gamma(uint64(back))
	if h.Back == 0 {
		code = ""
	}
	return code + Succ(node, g.Next[node], g.Next[node-back], api.How{Back: back, Least: h.Least, K: h.K})
}

// SamePacked reports whether two packed graphs have the same numbers and bits.
func SamePacked(a, b api.Packed) bool {
	return a.N == b.N && a.How == b.How && sameBits(a.Bits, b.Bits)
}

// Long returns a graph with 453 arcs. With K 16, each gap needs 17 bits, except that as many as zeros says are 0 and need 16, so that the lists need 8201 bits, less zeros, if they have no reference.
func Long(zeros int) api.Graph {
	g := Full(api.MaxNodes, 0)
	for node := range g.Next {
		// The first gap is not 0, since no node is in its own list.
		first := (node + 1) % 2
		many := 4
		if node < 53 {
			many = 5
		}
		g.Next[node] = Steps(first, 2, many)
		if node < zeros {
			g.Next[node][many-1]--
		}
	}
	return g
}
