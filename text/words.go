package text

import (
	"slices"
	"strconv"
	"strings"

	"lampwright/api"
	"lampwright/internal/spell"
)

const (
	// end is that of a line.
	end    = "\n"
	digits = "0123456789"
	// mostDigits is how many digits a number may have.
	mostDigits = 6
)

// lineOf returns the line that has these numbers as its words.
func lineOf(numbers ...int) string { return spell.Numbers(numbers...) + end }

// linesOf returns the lines of a text without their ends, if neither its bytes nor its lines are too many.
func linesOf(s string) ([]string, api.Errno) {
	if len(s) > api.MaxText {
		return nil, api.ErrMany
	}
	lines := strings.Split(s, end)
	// What follows the last end is a line only if it is not empty.
	if last := len(lines) - 1; lines[last] == "" {
		lines = lines[:last]
	}
	if len(lines) > api.MaxLines {
		return nil, api.ErrMany
	}
	return lines, api.OK
}

func wordsOf(line string) []string {
	words := strings.Split(line, spell.Blank)
	return slices.DeleteFunc(words, func(word string) bool { return word == "" })
}

// numbersOf returns the numbers that the words are, if there are as many words as many says.
func numbersOf(words []string, many int) ([]int, api.Errno) {
	if len(words) != many {
		return nil, api.ErrForm
	}
	var numbers []int
	for _, word := range words {
		if !isNumber(word) {
			return nil, api.ErrForm
		}
		// So few digits are always those of an int.
		n, _ := strconv.Atoi(word)
		numbers = append(numbers, n)
	}
	return numbers, api.OK
}

// isNumber reports whether a word has nothing but digits, and not too many of them. A word has at least one byte.
func isNumber(word string) bool {
	return len(word) <= mostDigits && strings.Trim(word, digits) == ""
}
