package rank_test

import (
	"math"
	"slices"
	"strings"
	"testing"

	"lampwright/api"
	"lampwright/internal/sample"
	"lampwright/rank"
)

// indexOf returns the index of the bits of a text.
func indexOf(text string, every int) api.Index {
	x := api.Index{Every: every}
	for at := range len(text) + 1 {
		if at%every == 0 {
			x.Ahead = append(x.Ahead, strings.Count(text[:at], "1"))
		}
	}
	return x
}

// wantBuild fails unless Build has these results.
func wantBuild(t *testing.T, b api.Bits, every int, x api.Index, err api.Errno) {
	t.Helper()
	if got, gotErr := rank.Build(b, every); got.Every != x.Every || !slices.Equal(got.Ahead, x.Ahead) || gotErr != err {
		t.Errorf("Build of %d bits, %d: %v %d, must be %v %d", b.Len, every, got, gotErr, x, err)
	}
}

func wantCheck(t *testing.T, b api.Bits, x api.Index, err api.Errno) {
	t.Helper()
	if got := rank.Check(b, x); got != err {
		t.Errorf("Check of %d bits, every %d, %d elements: %d, must be %d", b.Len, x.Every, len(x.Ahead), got, err)
	}
}

// wantBy fails unless By has these results.
func wantBy(t *testing.T, b api.Bits, x api.Index, at, n int, err api.Errno) {
	t.Helper()
	if got, gotErr := rank.By(b, x, at); got != n || gotErr != err {
		t.Errorf("By of %d bits, every %d, %d: %d %d, must be %d %d", b.Len, x.Every, at, got, gotErr, n, err)
	}
}

// everies are those for all texts, and those at the edges.
func everies() []int { return []int{1, 2, 3, 7, 8, 9, 31, 63, api.MaxEvery} }

// wrongEveries are those of no index.
func wrongEveries() []int {
	return []int{math.MinInt, -api.MaxEvery, -1, 0, api.MaxEvery + 1, 128, math.MaxInt}
}

func TestO2BuildByHand(t *testing.T) {
	for _, c := range []struct {
		text  string
		every int
		ahead []int
	}{
		{"", 1, []int{0}},
		{"", 64, []int{0}},
		{"1", 1, []int{0, 1}},
		{"1", 2, []int{0}},
		{"0110111", 1, []int{0, 0, 1, 2, 2, 3, 4, 5}},
		{"0110111", 3, []int{0, 2, 4}},
		{"0110111", 7, []int{0, 5}},
		{"0110111", 8, []int{0}},
	} {
		wantBuild(t, sample.Bits(c.text), c.every, api.Index{Every: c.every, Ahead: c.ahead}, api.OK)
	}
}

// wantIndexed fails unless the index of a text is built and is right, and By counts by it at these positions.
func wantIndexed(t *testing.T, text string, every int, at ...int) {
	t.Helper()
	b, x := sample.Bits(text), indexOf(text, every)
	wantBuild(t, b, every, x, api.OK)
	wantCheck(t, b, x, api.OK)
	for _, at := range at {
		wantBy(t, b, x, at, strings.Count(text[:at], "1"), api.OK)
	}
}

func TestO2OfEachText(t *testing.T) {
	for _, text := range texts() {
		for _, every := range everies() {
			wantIndexed(t, text, every, sample.Steps(0, 1, len(text)+1)...)
		}
	}
}

func TestO2OfEachEvery(t *testing.T) {
	text := sample.Mixed(150)
	for every := 1; every <= api.MaxEvery; every++ {
		wantIndexed(t, text, every, sample.Steps(0, 1, len(text)+1)...)
	}
}

func TestO2OfAsManyBitsAsThereMayBe(t *testing.T) {
	for _, text := range fullTexts() {
		for _, every := range everies() {
			wantIndexed(t, text, every, 0, 1, 63, 64, 65, 5000, api.MaxLen-64, api.MaxLen-1, api.MaxLen)
		}
	}
}

func TestO2BuildErrors(t *testing.T) {
	for _, every := range wrongEveries() {
		for _, text := range append(longTexts(), "", "1") {
			wantBuild(t, sample.Bits(text), every, api.Index{}, api.ErrRange)
		}
	}
	for _, w := range sample.WrongBits() {
		for _, every := range append(wrongEveries(), everies()...) {
			wantBuild(t, w.Bits, every, api.Index{}, w.Err)
		}
	}
}

// otherAheads returns lists that are not this one, but near to it.
func otherAheads(ahead []int) [][]int {
	last := len(ahead) - 1
	all := [][]int{nil, ahead[1:], ahead[:last], append(slices.Clip(ahead), ahead[last]), append(slices.Clip(ahead), ahead[last]+1), append([]int{0}, ahead...)}
	for i := range ahead {
		for _, n := range []int{-1, 1, 1 << 32, math.MinInt} {
			other := slices.Clone(ahead)
			other[i] += n
			all = append(all, other)
		}
	}
	return all
}

func TestO2CheckRefusesOtherIndexes(t *testing.T) {
	for _, text := range append(longTexts(), "", "0", "1", "0110111") {
		b := sample.Bits(text)
		for _, every := range everies() {
			for _, ahead := range otherAheads(indexOf(text, every).Ahead) {
				x := api.Index{Every: every, Ahead: ahead}
				wantCheck(t, b, x, api.ErrState)
				// The error that O2 mentions first.
				for _, at := range []int{math.MinInt, -1, 0, len(text), len(text) + 1, math.MaxInt} {
					wantBy(t, b, x, at, 0, api.ErrState)
				}
			}
		}
	}
}

// An index of other bits, or with another Every, is right only if its numbers are the same.
func TestO2CheckOfIndexesOfOthers(t *testing.T) {
	for _, text := range sample.Texts(5) {
		for _, other := range sample.Texts(5) {
			for every := 1; every < 5; every++ {
				for otherEvery := 1; otherEvery < 5; otherEvery++ {
					x := api.Index{Every: every, Ahead: indexOf(other, otherEvery).Ahead}
					err := api.ErrState
					if slices.Equal(x.Ahead, indexOf(text, every).Ahead) {
						err = api.OK
					}
					wantCheck(t, sample.Bits(text), x, err)
				}
			}
		}
	}
}

func TestO2CheckErrors(t *testing.T) {
	for _, text := range []string{"", "0110111", sample.Mixed(200)} {
		b := sample.Bits(text)
		for _, ahead := range [][]int{nil, {}, {0}, indexOf(text, 1).Ahead, indexOf(text, api.MaxEvery).Ahead, {-1}} {
			for _, every := range wrongEveries() {
				x := api.Index{Every: every, Ahead: ahead}
				wantCheck(t, b, x, api.ErrRange)
				for _, at := range append(wrongNumbers(), 0) {
					wantBy(t, b, x, at, 0, api.ErrRange)
				}
			}
		}
	}
	for _, w := range sample.WrongBits() {
		for _, every := range append(wrongEveries(), everies()...) {
			for _, ahead := range [][]int{nil, {0}, {0, 1, 2}} {
				x := api.Index{Every: every, Ahead: ahead}
				wantCheck(t, w.Bits, x, w.Err)
				for _, at := range append(wrongNumbers(), 0) {
					wantBy(t, w.Bits, x, at, 0, w.Err)
				}
			}
		}
	}
}

func TestO2ByErrors(t *testing.T) {
	for _, text := range append(longTexts(), "", "0", "1", sample.Mixed(api.MaxLen)) {
		for _, every := range everies() {
			x := indexOf(text, every)
			for _, at := range []int{math.MinInt, -every, -1, len(text) + 1, len(text) + every, math.MaxInt} {
				wantBy(t, sample.Bits(text), x, at, 0, api.ErrRange)
			}
		}
	}
}
