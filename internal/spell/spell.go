// Package spell has how several layers write numbers as words.
package spell

import (
	"strconv"
	"strings"
)

// Blank stands between words. No other white space does.
const Blank = " "

// Numbers returns decimal numbers with one blank between two.
func Numbers(numbers ...int) string {
	var words []string
	for _, n := range numbers {
		words = append(words, strconv.Itoa(n))
	}
	return strings.Join(words, Blank)
}
