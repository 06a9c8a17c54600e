package load

import (
	"slices"

	"lampwright/api"
	"lampwright/gaps"
	"lampwright/varint"
)

// mark is the bytes with which each file begins. The byte of the kind follows.
const mark = "LW"

// fileOf returns the file of a kind that has these numbers, and then these bytes.
func fileOf(kind int, numbers []uint64, end []byte) ([]byte, api.Errno) {
	written, err := varint.Write(numbers)
	if err != api.OK {
		return nil, err
	}
	b := slices.Concat([]byte(mark), []byte{byte(kind)}, written, end)
	if len(b) > api.MaxBytes {
		return nil, api.ErrMany
	}
	return b, api.OK
}

// numbersOf returns all numbers of a file of KindGaps. The graph has been checked.
func numbersOf(g api.Graph) []uint64 {
	numbers := []uint64{uint64(len(g.Next))}
	for node, l := range g.Next {
		// A list of nodes is short and increasing, so that there is no error.
		distances, _ := gaps.Gaps(l, node)
		numbers = append(numbers, uint64(len(l)))
		numbers = append(numbers, distances...)
	}
	return numbers
}

// headOf returns the numbers before the bits in a file of KindBits.
func headOf(p api.Packed) []uint64 {
	return []uint64{uint64(p.N), uint64(p.How.Back), uint64(p.How.Least), uint64(p.How.K), uint64(p.Bits.Len)}
}
