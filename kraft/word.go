package kraft

import (
	"cmp"
	"slices"

	"lampwright/api"
)

// word is the code of a symbol that is used: a number that is written with width bits.
type word struct {
	symbol, width int
	number        uint64
}

// wordsOf returns the words of all symbols that are used, the shortest first.
func wordsOf(l []int) ([]word, api.Errno) {
	room, err := Room(l)
	if err != api.OK {
		return nil, err
	}
	if room < 0 {
		return nil, api.ErrFull
	}
	words := sortedWords(l)
	for i := 1; i < len(words); i++ {
		before := words[i-1]
		words[i].number = (before.number + 1) << (words[i].width - before.width)
	}
	return words, api.OK
}

// sortedWords returns the words in the order in which they get their numbers, which are all 0 as yet.
func sortedWords(l []int) []word {
	var words []word
	for symbol, width := range l {
		if width > 0 {
			words = append(words, word{symbol: symbol, width: width})
		}
	}
	slices.SortFunc(words, func(a, b word) int {
		return cmp.Or(cmp.Compare(a.width, b.width), cmp.Compare(a.symbol, b.symbol))
	})
	return words
}
