package pack

import (
	"lampwright/api"
	"lampwright/elias"
	"lampwright/internal/check"
	"lampwright/succ"
)

// unpacker takes the list of one node after the other from what is packed.
type unpacker struct {
	api.Packed
	at   int
	next [][]int
}

// take takes the list of the next node.
func (u *unpacker) take() api.Errno {
	node := len(u.next)
	back, err := u.takeBack(node)
	if err != api.OK {
		return err
	}
	l, after, err := succ.Read(u.Bits, u.at, node, reference(node, back, u.next), with(u.How, back))
	if err != api.OK {
		return err
	}
	u.next = append(u.next, l)
	u.at = after
	return api.OK
}

// takeBack takes how many places before a node its reference is, if this has been written.
func (u *unpacker) takeBack(node int) (int, api.Errno) {
	if u.How.Back == 0 {
		return 0, api.OK
	}
	back, after, err := elias.ReadGamma(u.Bits, u.at)
	if err := check.Range(err, back <= uint64(farthest(u.How, node))); err != api.OK {
		return 0, err
	}
	u.at = after
	return int(back), api.OK
}
