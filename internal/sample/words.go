package sample

import "lampwright/api"

// Words spells the codes of symbols with these numbers of bits, if there is room for them: the beginning of a code is how much of the room is taken before it.
func Words(l []int) []string {
	words := make([]string, len(l))
	for symbol, width := range l {
		taken := uint64(0)
		for other, w := range l {
			if w > 0 && (w < width || w == width && other < symbol) {
				taken += 1 << (api.MaxDeep - w)
			}
		}
		words[symbol] = Binary(taken>>(api.MaxDeep-width), width)
	}
	return words
}

// Lists returns all lists of this many numbers from 0 to most.
func Lists(many, most int) [][]int {
	all := [][]int{nil}
	for range many {
		var longer [][]int
		for _, l := range all {
			for n := range most + 1 {
				longer = append(longer, append(l[:len(l):len(l)], n))
			}
		}
		all = longer
	}
	return all
}
