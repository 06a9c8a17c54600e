package kraft_test

import (
	"math"
	"slices"
	"strings"
	"testing"

	"lampwright/api"
	"lampwright/internal/sample"
	"lampwright/kraft"
)

// sign is reading with the codes for a list.
func sign(l []int) sample.Kind {
	words := sample.Words(l)
	read := func(b api.Bits, at int) (uint64, int, api.Errno) {
		symbol, after, err := kraft.Sign(l, b, at)
		return uint64(symbol), after, err
	}
	return sample.Kind{Name: "Sign", Spell: func(n uint64) string { return words[n] }, Read: read}
}

// used returns the symbols that have bits.
func used(l []int) []uint64 {
	var symbols []uint64
	for symbol, width := range l {
		if width > 0 {
			symbols = append(symbols, uint64(symbol))
		}
	}
	return symbols
}

func wantSign(t *testing.T, l []int, b api.Bits, at, symbol, after int, err api.Errno) {
	t.Helper()
	if gotSymbol, gotAfter, gotErr := kraft.Sign(l, b, at); gotSymbol != symbol || gotAfter != after || gotErr != err {
		t.Errorf("Sign of %v in %d bits at %d: %d %d %d, must be %d %d %d", l, b.Len, at, gotSymbol, gotAfter, gotErr, symbol, after, err)
	}
}

// find looks for the symbol whose word is at the beginning of a text.
func find(words []string, text string) (symbol, after int, err api.Errno) {
	err = api.ErrNone
	for symbol, word := range words {
		if word != "" && strings.HasPrefix(text, word) {
			return symbol, len(word), api.OK
		}
		if word != "" && strings.HasPrefix(word, text) {
			err = api.ErrShort
		}
	}
	return 0, 0, err
}

func TestG4SignByHand(t *testing.T) {
	l := []int{4, 2, 0, 4, 2} // 1000, 00, none, 1001, 01
	for _, c := range []struct {
		text              string
		at, symbol, after int
		err               api.Errno
	}{
		{"00", 0, 1, 2, api.OK},
		{"0111", 0, 4, 2, api.OK},
		{"1000", 0, 0, 4, api.OK},
		{"1001", 0, 3, 4, api.OK},
		{"1001", 1, 1, 3, api.OK},
		{"1001", 2, 4, 4, api.OK},
		{"1001", 3, 0, 0, api.ErrShort},
		{"1001", 4, 0, 0, api.ErrShort},
		{"1001", 5, 0, 0, api.ErrRange},
		{"", 0, 0, 0, api.ErrShort},
		{"0", 0, 0, 0, api.ErrShort},
		{"10", 0, 0, 0, api.ErrShort},
		{"100", 0, 0, 0, api.ErrShort},
		{"101", 0, 0, 0, api.ErrNone},
		{"11", 0, 0, 0, api.ErrNone},
		{"10100000", 0, 0, 0, api.ErrNone},
	} {
		wantSign(t, l, sample.Bits(c.text), c.at, c.symbol, c.after, c.err)
	}
}

func TestG4SignInEachShortText(t *testing.T) {
	lists := [][]int{nil, make([]int, api.MaxSigns), {2, 1, 4, 4}, {5, 0, 5}, {3, 3, 3, 3, 3, 3}, {6, 2, 3, 7}, chain(6)}
	for _, l := range append(lists, sample.Lists(3, 3)...) {
		if room, _ := kraft.Room(l); room < 0 {
			continue
		}
		words := sample.Words(l)
		for _, text := range sample.Texts(7) {
			symbol, after, err := find(words, text)
			wantSign(t, l, sample.Bits(text), 0, symbol, after, err)
			if err == api.OK {
				after += 3
			}
			wantSign(t, l, sample.Bits("101"+text), 3, symbol, after, err)
		}
	}
}

func TestG4SignReadsCodes(t *testing.T) {
	for _, l := range [][]int{{1}, {1, 1}, {24}, chain(24), {3, 0, 8, 2, 9, 9}, slices.Repeat([]int{6}, api.MaxSigns), slices.Repeat([]int{24}, api.MaxSigns)} {
		sign(l).WantReadBack(t, used(l))
	}
}

// Without a symbol that is used no bits are the beginning of a code, not even none.
func TestG4SignWithoutCodes(t *testing.T) {
	for _, l := range [][]int{nil, {}, {0}, make([]int, api.MaxSigns)} {
		wantSign(t, l, api.Bits{}, 0, 0, 0, api.ErrNone)
		wantSign(t, l, sample.Bits("01"), 1, 0, 0, api.ErrNone)
		wantSign(t, l, sample.Bits("01"), 2, 0, 0, api.ErrNone)
		wantSign(t, l, sample.Bits("01"), 3, 0, 0, api.ErrRange)
	}
}

func TestG4SignAtTheEnd(t *testing.T) {
	l := chain(24)
	for symbol, word := range sample.Words(l) {
		at := api.MaxLen - len(word)
		full := sample.Bits(sample.Mixed(at) + word)
		wantSign(t, l, full, at, symbol, api.MaxLen, api.OK)
		wantSign(t, l, full, api.MaxLen, 0, 0, api.ErrShort)
		wantSign(t, l, full, api.MaxLen+1, 0, 0, api.ErrRange)
	}
	full := sample.Bits(strings.Repeat("1", api.MaxLen))
	wantSign(t, []int{24}, full, api.MaxLen-1, 0, 0, api.ErrNone)
	wantSign(t, l, full, api.MaxLen-23, 0, 0, api.ErrShort)
}

func TestG4SignErrors(t *testing.T) {
	for _, l := range [][]int{nil, {1, 2}, chain(24)} {
		sign(l).WantPlaceErrors(t)
	}
	lists := append(wrongLists(), wrongList{[]int{1, 1, 1}, api.ErrFull}, wrongList{append(chain(24), 24), api.ErrFull})
	for _, w := range lists {
		for _, at := range []int{math.MinInt, -1, 0, 4, 5, math.MaxInt} {
			wantSign(t, w.l, sample.Bits("0101"), at, 0, 0, w.err)
			for _, x := range sample.WrongBits() {
				wantSign(t, w.l, x.Bits, at, 0, 0, w.err)
			}
		}
	}
}
