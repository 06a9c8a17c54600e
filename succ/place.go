package succ

import (
	"lampwright/api"
	"lampwright/varint"
)

// leastBlock is what block i has at least, which is not written.
func leastBlock(i int) int { return min(i, 1) }

// gapOf returns the gap of a run that begins with the number from, and follows the runs before.
func gapOf(from int, before []api.Run, node int) uint64 {
	if len(before) == 0 {
		return varint.Fold(int64(from - node))
	}
	return uint64(from - leastFrom(before))
}

// fromOf returns the number with which a run with this gap begins.
func fromOf(gap uint64, before []api.Run, node int) int {
	if len(before) == 0 {
		return node + int(varint.Unfold(gap))
	}
	return leastFrom(before) + int(gap)
}

// leastFrom is the least number with which a run can begin: at least one is missing after the run before.
func leastFrom(before []api.Run) int {
	last := before[len(before)-1]
	return last.From + last.Many + 1
}
