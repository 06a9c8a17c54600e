package sample

import (
	"math"

	"lampwright/api"
)

// Hows returns ways of encoding, some for all that is written and read, and those at the edges.
func Hows() []api.How {
	var all []api.How
	for _, back := range []int{0, 1, api.MaxBack} {
		for _, least := range []int{0, 2, 3, api.MaxList} {
			for _, k := range []int{1, 2, 3, 16} {
				all = append(all, api.How{Back: back, Least: least, K: k})
			}
		}
	}
	return all
}

// WrongHows returns ways of encoding that are not right.
func WrongHows() []api.How {
	all := []api.How{{}, {Back: 8, Least: 1, K: 17}, {Back: -1, Least: -1, K: -1}}
	for _, back := range []int{math.MinInt, -1, 8, 9, math.MaxInt} {
		all = append(all, api.How{Back: back, Least: 2, K: 1}, api.How{Back: back, K: 16})
	}
	for _, least := range []int{math.MinInt, -2, -1, 1, api.MaxList + 1, math.MaxInt} {
		all = append(all, api.How{Least: least, K: 1}, api.How{Back: 7, Least: least, K: 16})
	}
	for _, k := range []int{math.MinInt, -1, 0, 17, 18, math.MaxInt} {
		all = append(all, api.How{K: k}, api.How{Back: 7, Least: api.MaxList, K: k})
	}
	return all
}

// OddHows returns right and wrong ways of encoding.
func OddHows() []api.How {
	return append(WrongHows(), api.How{K: 1}, api.How{Least: 2, K: 16}, api.How{Back: 1, K: 3}, api.How{Back: 7, Least: api.MaxList, K: 2})
}
