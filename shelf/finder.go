package shelf

import (
	"lampwright/api"
	"lampwright/fano"
	"lampwright/internal/entry"
)

// finder finds lists on a shelf, and counts those that it decodes.
type finder struct {
	api.Shelf
	decoded int
}

// find returns the list of a node, and decodes for it only this list and those by which it is told. The shelf has been checked, so that there is no error.
func (f *finder) find(node int) []int {
	f.decoded++
	start, _ := fano.Get(f.Starts, node)
	l, _, _ := entry.Read(f.Packed, start, node, f.find)
	return l
}
