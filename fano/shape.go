package fano

import (
	"lampwright/api"
	"lampwright/bits"
	"lampwright/rank"
)

// shapeOf returns an encoded list with as many elements as many says, before its bits are written.
func shapeOf(many, top int) api.Fano {
	f := api.Fano{N: many, Top: top}
	for many > 0 && many<<(f.Width+1) <= top+1 {
		f.Width++
	}
	return f
}

// lowLen returns the number of bits of Low: Width of them for each element.
func lowLen(f api.Fano) int { return f.N * f.Width }

// highLen returns the number of bits of High: a 1 bit for each element, and a 0 bit for each number from 0 to the high part of Top.
func highLen(f api.Fano) int { return f.N + f.Top>>f.Width + 1 }

// hasShape reports whether Width, and the numbers of bits and of 1 bits of the high parts, are those of a list with N elements from 0 to Top.
func hasShape(f api.Fano) bool {
	shape := shapeOf(f.N, f.Top)
	if f.Width != shape.Width || f.Low.Len != lowLen(shape) || f.High.Len != highLen(shape) {
		return false
	}
	ones, err := rank.Rank(f.High, f.High.Len)
	return err == api.OK && ones == f.N && bits.Check(f.Low) == api.OK
}
