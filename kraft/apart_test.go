package kraft_test

import (
	"slices"
	"strings"
	"testing"

	"lampwright/api"
	"lampwright/internal/sample"
	"lampwright/kraft"
)

// bitsOf returns the bits of several texts.
func bitsOf(texts ...string) []api.Bits {
	var l []api.Bits
	for _, text := range texts {
		l = append(l, sample.Bits(text))
	}
	return l
}

// areApart compares each text with each other one.
func areApart(texts []string) bool {
	for i, a := range texts {
		for j, b := range texts {
			if i != j && a != "" && b != "" && strings.HasPrefix(a, b) {
				return false
			}
		}
	}
	return true
}

func wantApart(t *testing.T, l []api.Bits, apart bool, err api.Errno) {
	t.Helper()
	if gotApart, gotErr := kraft.Apart(l); gotApart != apart || gotErr != err {
		t.Errorf("Apart of %d elements: %v %d, must be %v %d", len(l), gotApart, gotErr, apart, err)
	}
}

func TestG3ApartByHand(t *testing.T) {
	for _, c := range []struct {
		texts []string
		apart bool
	}{
		{nil, true},
		{[]string{""}, true},
		{[]string{"", ""}, true},
		{[]string{"1"}, true},
		{[]string{"0", "", "1"}, true},
		{[]string{"0", "1"}, true},
		{[]string{"0", "01"}, false},
		{[]string{"01", "0"}, false},
		{[]string{"0", "00"}, false},
		{[]string{"10", "10"}, false},
		{[]string{"10", "11", "", "10"}, false},
		{[]string{"001", "", "000", "01", "1"}, true},
		{[]string{"1", "001", "01", "1001"}, false},
		{[]string{"01", "0111", "011"}, false},
		{[]string{"11111111", "111111111"}, false},
		{[]string{"11111111", "111111101"}, true},
		{[]string{"00000000", "000000000"}, false},
		{[]string{"1", "10000000", "100000000"}, false},
	} {
		wantApart(t, bitsOf(c.texts...), c.apart, api.OK)
	}
}

func TestG3ApartOfShortTexts(t *testing.T) {
	texts := sample.Texts(5)
	for _, a := range texts {
		for _, b := range texts {
			wantApart(t, bitsOf(a, b), areApart([]string{a, b}), api.OK)
		}
	}
	texts = sample.Texts(3)
	for _, i := range sample.Lists(3, len(texts)-1) {
		three := []string{texts[i[0]], texts[i[1]], texts[i[2]]}
		wantApart(t, bitsOf(three...), areApart(three), api.OK)
	}
}

func TestG3ApartOfLongTexts(t *testing.T) {
	long := sample.Mixed(40)
	for a := range len(long) {
		for b := range len(long) {
			// The texts begin alike, and the longer one has the same bit where the other one ends, or another one.
			for _, end := range []string{long[a : a+1], string('0' + '1' - long[a])} {
				texts := []string{long[:a] + end, long[:b]}
				wantApart(t, bitsOf(texts...), areApart(texts), api.OK)
			}
		}
	}
}

// Of the most and the longest elements that there can be, only two are not apart.
func TestG3ApartOfManyElements(t *testing.T) {
	rest := sample.Mixed(api.MaxLen - 6)
	var texts []string
	for n := range uint64(api.MaxSigns) {
		texts = append(texts, sample.Binary(n, 6)+rest)
	}
	wantApart(t, bitsOf(texts...), true, api.OK)
	for _, c := range [][2]int{{0, 63}, {63, 0}, {5, 40}, {41, 40}} {
		for _, end := range []int{6, 7, 14, 1000, api.MaxLen - 1, api.MaxLen} {
			l := bitsOf(texts...)
			l[c[0]] = sample.Bits(texts[c[1]][:end])
			wantApart(t, l, false, api.OK)
		}
	}
	wantApart(t, make([]api.Bits, api.MaxSigns), true, api.OK)
}

func TestG3ApartErrors(t *testing.T) {
	wantApart(t, make([]api.Bits, api.MaxSigns+1), false, api.ErrMany)
	wantApart(t, slices.Repeat(bitsOf("1"), api.MaxSigns+1), false, api.ErrMany)
	wantApart(t, slices.Repeat([]api.Bits{{Len: -1}}, api.MaxSigns+1), false, api.ErrMany)
	for _, w := range sample.WrongBits() {
		wantApart(t, []api.Bits{w.Bits}, false, w.Err)
		wantApart(t, append(bitsOf("01", "10"), w.Bits), false, w.Err)
		wantApart(t, append(bitsOf("01", "01"), w.Bits), false, w.Err)
		for at := range api.MaxSigns {
			l := make([]api.Bits, api.MaxSigns)
			l[at] = w.Bits
			wantApart(t, l, false, w.Err)
		}
		for _, x := range sample.WrongBits() {
			wantApart(t, []api.Bits{{}, w.Bits, x.Bits}, false, w.Err)
		}
	}
}
