package sample

import (
	"strings"

	"lampwright/api"
)

// Fano spells a list that does not decrease, with elements from 0 to top: it looks for each high part which elements have it.
func Fano(l []int, top int) api.Fano {
	width := 0
	for w := range 21 {
		if len(l) > 0 && len(l)<<w <= top+1 {
			width = w
		}
	}
	var low, high strings.Builder
	for _, n := range l {
		low.WriteString(Binary(uint64(n), width))
	}
	for part := range top>>width + 1 {
		for _, n := range l {
			if n>>width == part {
				high.WriteByte('1')
			}
		}
		high.WriteByte('0')
	}
	return api.Fano{N: len(l), Top: top, Width: width, Low: Bits(low.String()), High: Bits(high.String())}
}

// SameFano reports whether two encoded lists have the same numbers and bits.
func SameFano(a, b api.Fano) bool {
	return a.N == b.N && a.Top == b.Top && a.Width == b.Width && sameBits(a.Low, b.Low) && sameBits(a.High, b.High)
}
