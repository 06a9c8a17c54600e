package huff_test

import (
	"math"
	"slices"
	"strings"
	"testing"

	"lampwright/api"
	"lampwright/huff"
	"lampwright/internal/sample"
)

// spell puts the codes of symbols with these numbers of bits one after the other.
func spell(signs, l []int) string {
	words := sample.Words(l)
	var text strings.Builder
	for _, symbol := range signs {
		text.WriteString(words[symbol])
	}
	return text.String()
}

// frequencies counts symbols from 0 to many - 1.
func frequencies(signs []int, many int) []int {
	often := make([]int, many)
	for _, symbol := range signs {
		often[symbol]++
	}
	return often
}

func wantPack(t *testing.T, signs []int, many int, l []int, text string, wantErr api.Errno) {
	t.Helper()
	gotL, packed, err := huff.Pack(signs, many)
	if !slices.Equal(gotL, l) {
		t.Errorf("Pack of %d symbols from %d: lengths %v, must be %v", len(signs), many, gotL, l)
	}
	sample.WantBits(t, "Pack", packed, err, text, wantErr)
}

// wantPackedAndUnpacked fails unless Pack follows the rules, and Unpack takes it back.
func wantPackedAndUnpacked(t *testing.T, signs []int, many int) {
	t.Helper()
	l := lengths(frequencies(signs, many))
	wantPack(t, signs, many, l, spell(signs, l), api.OK)
	wantUnpack(t, l, sample.Bits(spell(signs, l)), len(signs), signs, api.OK)
}

func wantUnpack(t *testing.T, l []int, b api.Bits, n int, signs []int, err api.Errno) {
	t.Helper()
	if gotSigns, gotErr := huff.Unpack(l, b, n); !slices.Equal(gotSigns, signs) || gotErr != err {
		t.Errorf("Unpack of %v and %d bits, %d: %d symbols, %d, must be %d symbols, %d", l, b.Len, n, len(gotSigns), gotErr, len(signs), err)
	}
}

func TestH3PackByHand(t *testing.T) {
	for _, c := range []struct {
		signs []int
		many  int
		l     []int
		text  string
	}{
		{nil, 0, nil, ""},
		{nil, 3, []int{0, 0, 0}, ""},
		{[]int{0}, 1, []int{1}, "0"},
		{[]int{2, 2, 2}, 3, []int{0, 0, 1}, "000"},
		{[]int{1, 0, 1}, 2, []int{1, 1}, "101"},
		{[]int{0, 1, 2, 3}, 4, []int{2, 2, 2, 2}, "00011011"},
		{[]int{3, 1, 3, 0}, 4, []int{2, 2, 0, 1}, "0110" + "10"},
		{[]int{0, 0, 2, 3, 0, 0, 1, 0, 1}, 6, []int{1, 2, 3, 3, 0, 0}, "0" + "0" + "110" + "111" + "0" + "0" + "10" + "0" + "10"},
	} {
		wantPack(t, c.signs, c.many, c.l, c.text, api.OK)
		wantUnpack(t, c.l, sample.Bits(c.text), len(c.signs), c.signs, api.OK)
	}
}

func TestH3PackAndUnpackShortLists(t *testing.T) {
	for long := range 7 {
		for _, signs := range sample.Lists(long, 3) {
			wantPackedAndUnpacked(t, signs, 4)
		}
	}
}

func TestH3PackAndUnpackLongLists(t *testing.T) {
	for start := range 60 {
		for _, most := range []int{0, 1, 9, api.MaxSigns - 1} {
			wantPackedAndUnpacked(t, scattered(start*16, most, start), api.MaxSigns)
		}
	}
	for _, many := range []int{1, 2, 5, 33, api.MaxSigns - 1, api.MaxSigns} {
		wantPackedAndUnpacked(t, scattered(api.MaxPacked, many-1, many), many)
		wantPackedAndUnpacked(t, make([]int, api.MaxPacked), many)
	}
}

func TestH3PackErrors(t *testing.T) {
	for _, many := range []int{math.MinInt, -1, api.MaxSigns + 1, math.MaxInt} {
		for _, signs := range [][]int{nil, {0}, {-1}, make([]int, api.MaxPacked+1)} {
			wantPack(t, signs, many, nil, "", api.ErrRange)
		}
	}
	wantPack(t, []int{0}, 0, nil, "", api.ErrRange)
	for _, many := range []int{1, 2, 10, api.MaxSigns} {
		for _, bad := range []int{math.MinInt, -1, many, many + 1, math.MaxInt} {
			for _, long := range []int{1, 20, api.MaxPacked, api.MaxPacked + 1, api.MaxPacked * 2} {
				for _, at := range []int{0, long / 2, long - 1} {
					signs := make([]int, long)
					signs[at] = bad
					wantPack(t, signs, many, nil, "", api.ErrRange)
				}
			}
		}
		wantPack(t, make([]int, api.MaxPacked+1), many, nil, "", api.ErrMany)
		wantPack(t, scattered(api.MaxPacked+1, many-1, 1), many, nil, "", api.ErrMany)
	}
}

// There are no symbols for which Lengths has no room, or their codes: even fixed numbers of 6 bits have.
func TestH3PackAlwaysHasRoom(t *testing.T) {
	signs := scattered(api.MaxPacked, api.MaxSigns-1, 5)
	if _, packed, err := huff.Pack(signs, api.MaxSigns); err != api.OK || packed.Len > 6*api.MaxPacked {
		t.Errorf("Pack: %d bits, %d", packed.Len, err)
	}
	var deep []int
	for symbol, n := range fibonacci(14) {
		deep = append(deep, slices.Repeat([]int{symbol}, n)...)
	}
	wantPackedAndUnpacked(t, deep, 14)
}

func TestH3UnpackByHand(t *testing.T) {
	l := []int{4, 2, 0, 4, 2} // 1000, 00, none, 1001, 01
	for _, c := range []struct {
		text  string
		n     int
		signs []int
		err   api.Errno
	}{
		{"", 0, nil, api.OK},
		{"00", 1, []int{1}, api.OK},
		{"1001" + "01" + "1000", 3, []int{3, 4, 0}, api.OK},
		{"1001" + "01" + "1000", 2, nil, api.ErrForm},
		{"1001" + "01" + "1000", 0, nil, api.ErrForm},
		{"1001" + "01" + "1000", 4, nil, api.ErrShort},
		{"1001" + "01" + "100", 3, nil, api.ErrShort},
		{"1001" + "01" + "100", 2, nil, api.ErrForm},
		{"1001" + "01" + "1", 1000, nil, api.ErrShort},
		{"1001" + "11" + "00", 3, nil, api.ErrNone},
		{"1001" + "11" + "00", 2, nil, api.ErrNone},
		{"1001" + "11" + "00", 1, nil, api.ErrForm},
		{"01" + "1011", 1000, nil, api.ErrNone},
		{"", 1, nil, api.ErrShort},
		{"", 1001, nil, api.ErrRange},
		{"1111", 1001, nil, api.ErrRange},
		{"1111", -1, nil, api.ErrRange},
	} {
		wantUnpack(t, l, sample.Bits(c.text), c.n, c.signs, c.err)
	}
	for _, none := range [][]int{nil, {0, 0}} {
		wantUnpack(t, none, api.Bits{}, 0, nil, api.OK)
		wantUnpack(t, none, api.Bits{}, 1, nil, api.ErrNone)
		wantUnpack(t, none, sample.Bits("0"), 0, nil, api.ErrForm)
		wantUnpack(t, none, sample.Bits("0"), 1, nil, api.ErrNone)
	}
}

// The codes need not be those that Pack would use, and can leave room.
func TestH3UnpackUpToTheLastBit(t *testing.T) {
	signs := append(make([]int, 341), 1)
	l := []int{24, 8}
	wantUnpack(t, l, sample.Bits(spell(signs, l)), 342, signs, api.OK)
	wantUnpack(t, l, sample.Bits(spell(signs, l)), 343, nil, api.ErrShort)
	wantUnpack(t, l, sample.Bits(spell(signs, l)), 341, nil, api.ErrForm)
	signs, l = make([]int, api.MaxPacked), []int{8}
	wantUnpack(t, l, sample.Bits(spell(signs, l)), api.MaxPacked, signs, api.OK)
	wantUnpack(t, l, sample.Bits(spell(signs, l)+"0"), api.MaxPacked, nil, api.ErrForm)
	wantUnpack(t, l, sample.Bits(spell(signs, l)+"00000000"), api.MaxPacked, nil, api.ErrForm)
	wantUnpack(t, l, sample.Bits(spell(signs, l)+"00000000"), api.MaxPacked+1, nil, api.ErrRange)
}

func TestH3UnpackErrors(t *testing.T) {
	lists := []struct {
		l   []int
		err api.Errno
	}{
		{[]int{25}, api.ErrRange},
		{[]int{1, 1, 1, -1}, api.ErrRange},
		{make([]int, api.MaxSigns+1), api.ErrMany},
		{slices.Repeat([]int{25}, api.MaxSigns+1), api.ErrMany},
		{[]int{1, 1, 1}, api.ErrFull},
		{[]int{1, 2, 2, 24}, api.ErrFull},
		{slices.Repeat([]int{5}, api.MaxSigns), api.ErrFull},
	}
	for _, n := range []int{math.MinInt, -1, 0, 1, api.MaxPacked, api.MaxPacked + 1, math.MaxInt} {
		for _, w := range sample.WrongBits() {
			wantUnpack(t, []int{1, 2}, w.Bits, n, nil, w.Err)
			wantUnpack(t, nil, w.Bits, n, nil, w.Err)
			for _, c := range lists {
				wantUnpack(t, c.l, w.Bits, n, nil, c.err)
			}
		}
		for _, c := range lists {
			wantUnpack(t, c.l, sample.Bits("011"), n, nil, c.err)
			wantUnpack(t, c.l, api.Bits{}, n, nil, c.err)
		}
	}
	for _, n := range []int{math.MinInt, -1, api.MaxPacked + 1, math.MaxInt} {
		for _, text := range []string{"", "0", "11", sample.Mixed(2000), strings.Repeat("0", api.MaxLen)} {
			wantUnpack(t, []int{1, 2}, sample.Bits(text), n, nil, api.ErrRange)
			wantUnpack(t, []int{1}, sample.Bits(text), n, nil, api.ErrRange)
		}
	}
}
