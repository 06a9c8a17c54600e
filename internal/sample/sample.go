// Package sample has inputs for the tests of the layers. It knows nothing of package bits, so that it can be held against it.
package sample

import (
	"bytes"
	"math"
	"math/bits"
	"strings"

	"lampwright/api"
)

// Bits returns the bits that a text of the signs 0 and 1 spells.
func Bits(text string) api.Bits {
	b := api.Bits{Len: len(text), Bytes: make([]byte, (len(text)+7)/8)}
	for at := range len(text) {
		if text[at] == '1' {
			b.Bytes[at/8] |= 0x80 >> (at % 8)
		}
	}
	return b
}

// Same reports whether b is what Bits returns for the text.
func Same(b api.Bits, text string) bool { return sameBits(b, Bits(text)) }

func sameBits(a, b api.Bits) bool { return a.Len == b.Len && bytes.Equal(a.Bytes, b.Bytes) }

// Texts returns all texts of at most longest signs 0 and 1.
func Texts(longest int) []string {
	all := []string{""}
	for i := 0; len(all[i]) < longest; i++ {
		all = append(all, all[i]+"0", all[i]+"1")
	}
	return all
}

// Mixed returns a text of n signs 0 and 1 in which no part stands three times in a row.
func Mixed(n int) string {
	var text strings.Builder
	for i := range n {
		text.WriteByte("01"[bits.OnesCount(uint(i))%2])
	}
	return text.String()
}

// OddBits returns right and wrong sequences of bits.
func OddBits() []api.Bits {
	all := []api.Bits{{}, Bits("1"), Bits("0"), Bits(Mixed(100)), Bits(Mixed(api.MaxLen))}
	for _, w := range WrongBits() {
		all = append(all, w.Bits)
	}
	return all
}

// Wrong is a sequence that is not one of bits, and the error that says so.
type Wrong struct {
	Bits api.Bits
	Err  api.Errno
}

// WrongBits returns sequences with each error that bits can have.
func WrongBits() []Wrong {
	return []Wrong{
		{api.Bits{Len: -1}, api.ErrRange},
		{api.Bits{Len: math.MinInt}, api.ErrRange},
		{api.Bits{Len: -8, Bytes: []byte{1}}, api.ErrRange},
		{api.Bits{Len: api.MaxLen + 1, Bytes: make([]byte, api.MaxLen/8+1)}, api.ErrRange},
		{api.Bits{Len: math.MaxInt}, api.ErrRange},
		{api.Bits{Len: math.MaxInt - 7, Bytes: []byte{1}}, api.ErrRange},
		{api.Bits{Len: 0, Bytes: []byte{0}}, api.ErrForm},
		{api.Bits{Len: 1}, api.ErrForm},
		{api.Bits{Len: 8, Bytes: []byte{0, 0}}, api.ErrForm},
		{api.Bits{Len: 9, Bytes: []byte{0}}, api.ErrForm},
		{api.Bits{Len: api.MaxLen, Bytes: make([]byte, api.MaxLen/8-1)}, api.ErrForm},
		{api.Bits{Len: api.MaxLen, Bytes: make([]byte, api.MaxLen/8+1)}, api.ErrForm},
		{api.Bits{Len: 1, Bytes: []byte{0x40}}, api.ErrForm},
		{api.Bits{Len: 7, Bytes: []byte{0x01}}, api.ErrForm},
		{api.Bits{Len: 12, Bytes: []byte{0xff, 0xf8}}, api.ErrForm},
		{api.Bits{Len: 12, Bytes: []byte{0xff, 0xf1}}, api.ErrForm},
	}
}
