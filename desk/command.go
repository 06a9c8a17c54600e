package desk

import (
	"strconv"
	"strings"

	"lampwright/api"
	"lampwright/internal/spell"
)

const (
	// mostWords is how many words a line may have.
	mostWords = 4
	// mostDigits is how many digits a number may have.
	mostDigits = 4
)

// command is what the name of a line stands for: how many numbers follow the name, and what is done with them.
type command struct {
	numbers int
	do      func(numbers []int) (string, api.Errno)
}

// commands returns the commands of a clerk by their names.
func (c *clerk) commands() map[string]command {
	return map[string]command{
		"nodes":  {1, c.nodes},
		"arc":    {2, c.arc},
		"drop":   {2, c.drop},
		"how":    {3, c.how},
		"bits":   {0, c.bits},
		"list":   {1, c.list},
		"far":    {2, c.far},
		"way":    {2, c.way},
		"part":   {1, c.part},
		"order":  {0, c.order},
		"core":   {1, c.core},
		"threes": {0, c.threes},
	}
}

// do executes a line, and returns the reply. With an error, it changes nothing.
func (c *clerk) do(line string) (string, api.Errno) {
	// What follows the last word that there may be is not split, so that a long line does not become many words.
	words := strings.SplitN(line, spell.Blank, mostWords+1)
	named, known := c.commands()[words[0]]
	if !known || len(words) != 1+named.numbers {
		return "", api.ErrForm
	}
	numbers, err := numbersOf(words[1:])
	if err != api.OK {
		return "", err
	}
	return named.do(numbers)
}

// numbersOf returns the numbers that all of the words are.
func numbersOf(words []string) ([]int, api.Errno) {
	var numbers []int
	for _, word := range words {
		n, is := numberOf(word)
		if !is {
			return nil, api.ErrForm
		}
		numbers = append(numbers, n)
	}
	return numbers, api.OK
}

// numberOf returns the number that a word is, and whether it is one.
func numberOf(word string) (int, bool) {
	if len(word) > mostDigits {
		return 0, false
	}
	n, err := strconv.Atoi(word)
	// A number has one word, so that one with a sign or leading zeros is not that of the number it reads as.
	if err != nil || n < 0 || strconv.Itoa(n) != word {
		return 0, false
	}
	return n, true
}
