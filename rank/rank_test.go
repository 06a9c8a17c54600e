package rank_test

import (
	"math"
	"strings"
	"testing"

	"lampwright/api"
	"lampwright/internal/sample"
	"lampwright/rank"
)

// wantRank fails unless Rank has these results.
func wantRank(t *testing.T, b api.Bits, at, n int, err api.Errno) {
	t.Helper()
	if got, gotErr := rank.Rank(b, at); got != n || gotErr != err {
		t.Errorf("Rank of %d bits, %d: %d %d, must be %d %d", b.Len, at, got, gotErr, n, err)
	}
}

// wantSelect fails unless Select has these results.
func wantSelect(t *testing.T, b api.Bits, bit, i, at int, err api.Errno) {
	t.Helper()
	if got, gotErr := rank.Select(b, bit, i); got != at || gotErr != err {
		t.Errorf("Select of %d bits, %d, %d: %d %d, must be %d %d", b.Len, bit, i, got, gotErr, at, err)
	}
}

// texts are those of few bits, and others around whole bytes and up to as many bits as there may be.
func texts() []string {
	return append(sample.Texts(8), longTexts()...)
}

func longTexts() []string {
	var all []string
	for _, n := range []int{15, 16, 17, 63, 64, 65, 127, 128, 129, 200} {
		all = append(all, sample.Mixed(n), strings.Repeat("0", n), strings.Repeat("1", n))
	}
	return all
}

// fullTexts have as many bits as there may be.
func fullTexts() []string {
	const n = api.MaxLen
	return []string{sample.Mixed(n), strings.Repeat("0", n), strings.Repeat("1", n), strings.Repeat("0", n-1) + "1", "1" + strings.Repeat("0", n-1)}
}

// wrongNumbers are those that are neither a position in as many bits as there may be nor an index.
func wrongNumbers() []int {
	return []int{math.MinInt, -api.MaxLen, -1, api.MaxLen + 1, math.MaxInt}
}

func TestO1RankAtEachPosition(t *testing.T) {
	for _, text := range texts() {
		b := sample.Bits(text)
		for at := range len(text) + 1 {
			wantRank(t, b, at, strings.Count(text[:at], "1"), api.OK)
		}
	}
	for _, text := range fullTexts() {
		for _, at := range []int{0, 1, 7, 8, 1000, api.MaxLen - 1, api.MaxLen} {
			wantRank(t, sample.Bits(text), at, strings.Count(text[:at], "1"), api.OK)
		}
	}
}

func TestO1RankErrors(t *testing.T) {
	for _, text := range append(texts(), fullTexts()...) {
		for _, at := range []int{math.MinInt, -1, len(text) + 1, len(text) + 8, math.MaxInt} {
			wantRank(t, sample.Bits(text), at, 0, api.ErrRange)
		}
	}
	for _, w := range sample.WrongBits() {
		for _, at := range append(wrongNumbers(), 0, 1) {
			wantRank(t, w.Bits, at, 0, w.Err)
		}
	}
}

// wantEachSelected fails unless each bit of the text is found, and none beyond the last one.
func wantEachSelected(t *testing.T, text string) {
	t.Helper()
	b := sample.Bits(text)
	many := [2]int{}
	for at := range len(text) {
		bit := int(text[at] - '0')
		wantSelect(t, b, bit, many[bit], at, api.OK)
		many[bit]++
	}
	for bit, n := range many {
		for _, i := range []int{n, n + 1, api.MaxLen, api.MaxLen + 1, math.MaxInt} {
			wantSelect(t, b, bit, i, 0, api.ErrNone)
		}
	}
}

func TestO1SelectOfEachBit(t *testing.T) {
	for _, text := range texts() {
		wantEachSelected(t, text)
	}
}

func TestO1SelectOfAsManyBitsAsThereMayBe(t *testing.T) {
	const last = api.MaxLen - 1
	for _, text := range fullTexts() {
		for bit, sign := range []string{"0", "1"} {
			many := strings.Count(text, sign)
			if many > 0 {
				wantSelect(t, sample.Bits(text), bit, many-1, strings.LastIndex(text, sign), api.OK)
			}
			wantSelect(t, sample.Bits(text), bit, many, 0, api.ErrNone)
		}
	}
	wantSelect(t, sample.Bits(strings.Repeat("0", api.MaxLen)), 0, last, last, api.OK)
	wantSelect(t, sample.Bits(strings.Repeat("1", api.MaxLen)), 1, last, last, api.OK)
	wantSelect(t, sample.Bits(strings.Repeat("0", last)+"1"), 1, 0, last, api.OK)
	wantSelect(t, sample.Bits("1"+strings.Repeat("0", last)), 0, 0, 1, api.OK)
}

func TestO1SelectErrors(t *testing.T) {
	for _, text := range []string{"", "0", "1", "0110", sample.Mixed(api.MaxLen)} {
		b := sample.Bits(text)
		for _, bit := range []int{math.MinInt, -1, 2, 3, 256, 1 << 32, math.MaxInt} {
			// The error that O1 mentions first: there is no such bit either.
			for _, i := range []int{math.MinInt, -1, 0, 1, api.MaxLen, math.MaxInt} {
				wantSelect(t, b, bit, i, 0, api.ErrRange)
			}
		}
		for _, i := range []int{math.MinInt, -2, -1} {
			wantSelect(t, b, 0, i, 0, api.ErrRange)
			wantSelect(t, b, 1, i, 0, api.ErrRange)
		}
	}
	for _, w := range sample.WrongBits() {
		for _, bit := range []int{math.MinInt, -1, 0, 1, 2, math.MaxInt} {
			for _, i := range append(wrongNumbers(), 0, 1) {
				wantSelect(t, w.Bits, bit, i, 0, w.Err)
			}
		}
	}
}

// As many bits with the value stand before a bit that is found as were asked for.
func TestO1RankAndSelectAgree(t *testing.T) {
	for _, text := range longTexts() {
		b := sample.Bits(text)
		for i := range len(text) {
			if at, err := rank.Select(b, 1, i); err == api.OK {
				wantRank(t, b, at, i, api.OK)
				wantRank(t, b, at+1, i+1, api.OK)
			}
			if at, err := rank.Select(b, 0, i); err == api.OK {
				wantRank(t, b, at, at-i, api.OK)
				wantRank(t, b, at+1, at-i, api.OK)
			}
		}
	}
}
