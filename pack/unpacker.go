package pack

import (
	"lampwright/api"
	"lampwright/internal/entry"
)

// unpacker takes the list of one node after the other from what is packed.
type unpacker struct {
	api.Packed
	at   int
	next [][]int
}

// take takes the list of the next node.
func (u *unpacker) take() api.Errno {
	l, after, err := entry.Read(u.Packed, u.at, len(u.next), func(node int) []int { return u.next[node] })
	if err != api.OK {
		return err
	}
	u.next = append(u.next, l)
	u.at = after
	return api.OK
}
