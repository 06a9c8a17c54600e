package sample

import (
	"slices"
	"strconv"
	"strings"

	"lampwright/api"
)

// Varint spells a number as bytes: it cuts the binary digits of n into sevens, from the end on.
func Varint(n uint64) []byte {
	text := strconv.FormatUint(n, 2)
	text = strings.Repeat("0", (7-len(text)%7)%7) + text
	var b []byte
	for end := len(text); end > 0; end -= 7 {
		seven, _ := strconv.ParseUint(text[end-7:end], 2, 8)
		b = append(b, byte(seven)+128)
	}
	b[len(b)-1] -= 128
	return b
}

// Varints spells several numbers, one after the other.
func Varints(l ...uint64) []byte {
	var b []byte
	for _, n := range l {
		b = append(b, Varint(n)...)
	}
	return b
}

// GapsFile spells a graph as a file of KindGaps.
func GapsFile(g api.Graph) []byte {
	b := append([]byte("LW\x01"), Varint(uint64(len(g.Next)))...)
	for node, l := range g.Next {
		b = append(b, Varint(uint64(len(l)))...)
		b = append(b, Varints(Distances(l, node)...)...)
	}
	return b
}

// BitsFile spells a graph as a file of KindBits.
func BitsFile(g api.Graph, h api.How) []byte {
	text, _, _ := Pack(g, h)
	return TextFile(len(g.Next), h, text)
}

// TextFile spells a file of KindBits that says that there are n nodes, and has these signs, whether or not they are those of a graph.
func TextFile(n int, h api.How, text string) []byte {
	head := Varints(uint64(n), uint64(h.Back), uint64(h.Least), uint64(h.K), uint64(len(text)))
	return slices.Concat([]byte("LW\x02"), head, Bits(text).Bytes)
}
