package succ_test

import (
	"slices"
	"strings"

	"lampwright/api"
	"lampwright/internal/sample"
)

// spell spells what L2 says, part by part.
func spell(node int, l, from []int, h api.How) string {
	text := sample.Gamma(uint64(len(l)))
	rest := l
	if h.Back != 0 && len(l) > 0 {
		blocks := blocksOf(from, l)
		text += spellBlocks(blocks)
		rest = slices.DeleteFunc(slices.Clone(l), func(n int) bool { return slices.Contains(from, n) })
	}
	if h.Least != 0 && len(rest) > 0 {
		long, single := sample.Split(rest, h.Least)
		text += spellRuns(node, h.Least, long...)
		rest = single
	}
	return text + sample.Gaps(rest, node, h.K)
}

// blocksOf writes a sign for each element, 1 if it is in l, and counts equal signs. The last ones need not be counted.
func blocksOf(from, l []int) []int {
	signs := ""
	for _, n := range from {
		signs += map[bool]string{false: "0", true: "1"}[slices.Contains(l, n)]
	}
	var blocks []int
	for sign := "1"; strings.Trim(signs, sign) != ""; sign = map[string]string{"0": "1", "1": "0"}[sign] {
		after := strings.TrimLeft(signs, sign)
		blocks = append(blocks, len(signs)-len(after))
		signs = after
	}
	return blocks
}

// spellBlocks spells how many blocks there are, and the blocks.
func spellBlocks(blocks []int) string {
	text := sample.Gamma(uint64(len(blocks)))
	for i, block := range blocks {
		if i > 0 {
			block--
		}
		text += sample.Gamma(uint64(block))
	}
	return text
}

// spellRuns spells how many runs there are, and the runs. Their gaps are those of a list of one element for each run: the last number of the run before is the element before, and a gap is less by 1.
func spellRuns(node, least int, long ...api.Run) string {
	text := sample.Gamma(uint64(len(long)))
	for i, run := range long {
		gap := sample.Distances([]int{run.From}, node)[0]
		if i > 0 {
			before := long[i-1]
			gap = sample.Distances([]int{before.From + before.Many - 1, run.From}, node)[1] - 1
		}
		text += sample.Gamma(gap) + sample.Gamma(uint64(run.Many-least))
	}
	return text
}
