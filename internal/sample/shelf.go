package sample

import "lampwright/api"

// Shelf spells a graph, and the positions at which the texts of its nodes begin.
func Shelf(g api.Graph, h api.How) api.Shelf {
	text, _, starts := Pack(g, h)
	return api.Shelf{Packed: api.Packed{N: len(g.Next), How: h, Bits: Bits(text)}, Starts: Fano(starts, len(text))}
}

// SameShelf reports whether two shelves have the same numbers and bits.
func SameShelf(a, b api.Shelf) bool {
	return SamePacked(a.Packed, b.Packed) && SameFano(a.Starts, b.Starts)
}
