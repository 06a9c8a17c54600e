package pack

import (
	"lampwright/api"
	"lampwright/bits"
	"lampwright/elias"
	"lampwright/internal/entry"
	"lampwright/succ"
)

// packer appends the bits of one node after the other to what is packed.
type packer struct {
	api.Packed
	backs, starts []int
}

// add appends the bits of a node.
func (p *packer) add(node int, next [][]int) api.Errno {
	back, code := p.fewest(node, next)
	whole, err := bits.Join(p.Bits, code)
	if err != api.OK {
		return err
	}
	p.backs = append(p.backs, back)
	p.starts = append(p.starts, p.Bits.Len)
	p.Bits = whole
	return api.OK
}

// fewest returns the fewest bits that describe the list of a node, and how many places before the node their reference is.
func (p *packer) fewest(node int, next [][]int) (int, api.Bits) {
	least, code := 0, p.encode(node, 0, next)
	for back := 1; back <= entry.Farthest(p.How, node); back++ {
		if other := p.encode(node, back, next); other.Len < code.Len {
			least, code = back, other
		}
	}
	return least, code
}

// encode returns the bits of a node whose reference is that many places before it. The graph and the way of encoding have been checked, and a list that has nothing but nodes is too short for too many bits, so that there is no error.
func (p *packer) encode(node, back int, next [][]int) api.Bits {
	list, _ := succ.Write(node, next[node], reference(node, back, next), entry.With(p.How, back))
	if p.How.Back == 0 {
		return list
	}
	code, _ := elias.Gamma(uint64(back))
	whole, _ := bits.Join(code, list)
	return whole
}

// reference returns the list that is that many places before a node; 0 means that there is none.
func reference(node, back int, next [][]int) []int {
	if back == 0 {
		return nil
	}
	return next[node-back]
}
