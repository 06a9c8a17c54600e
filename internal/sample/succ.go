package sample

import (
	"slices"
	"strings"

	"lampwright/api"
)

// Succ spells the list of a node with a reference, part by part.
func Succ(node int, l, from []int, h api.How) string {
	text := Gamma(uint64(len(l)))
	rest := l
	if h.Back != 0 && len(l) > 0 {
		text += Blocks(blocksOf(from, l))
		rest = slices.DeleteFunc(slices.Clone(l), func(n int) bool { return slices.Contains(from, n) })
	}
	if h.Least != 0 && len(rest) > 0 {
		long, single := Split(rest, h.Least)
		text += Runs(node, h.Least, long...)
		rest = single
	}
	return text + Gaps(rest, node, h.K)
}

// blocksOf writes a sign for each element, 1 if it is in l, and counts equal signs. The last ones need not be counted.
func blocksOf(from, l []int) []int {
	signs := ""
	for _, n := range from {
		signs += map[bool]string{false: "0", true: "1"}[slices.Contains(l, n)]
	}
	var blocks []int
	for sign := "1"; strings.Trim(signs, sign) != ""; sign = map[string]string{"0": "1", "1": "0"}[sign] {
		after := strings.TrimLeft(signs, sign)
		blocks = append(blocks, len(signs)-len(after))
		signs = after
	}
	return blocks
}

// Blocks spells how many blocks there are, and the blocks.
func Blocks(blocks []int) string {
	text := Gamma(uint64(len(blocks)))
	for i, block := range blocks {
		if i > 0 {
			block--
		}
		text += Gamma(uint64(block))
	}
	return text
}

// Runs spells how many runs there are, and the runs. Their gaps are those of a list of one element for each run: the last number of the run before is the element before, and a gap is less by 1.
func Runs(node, least int, long ...api.Run) string {
	text := Gamma(uint64(len(long)))
	for i, run := range long {
		gap := Distances([]int{run.From}, node)[0]
		if i > 0 {
			before := long[i-1]
			gap = Distances([]int{before.From + before.Many - 1, run.From}, node)[1] - 1
		}
		text += Gamma(gap) + Gamma(uint64(run.Many-least))
	}
	return text
}
