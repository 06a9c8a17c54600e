package kraft_test

import (
	"math"
	"slices"
	"strings"
	"testing"

	"lampwright/api"
	"lampwright/internal/sample"
	"lampwright/kraft"
)

// wrongList is a list that Check refuses, and the error that says so.
type wrongList struct {
	l   []int
	err api.Errno
}

// wrongLists returns lists with each error that Check has, some of them with too little room besides.
func wrongLists() []wrongList {
	all := []wrongList{
		{[]int{1, 1, 1, 25}, api.ErrRange},
		{[]int{-1, 1, 1, 1}, api.ErrRange},
		{make([]int, api.MaxSigns+1), api.ErrMany},
		{slices.Repeat([]int{1}, api.MaxSigns+1), api.ErrMany},
		{slices.Repeat([]int{-1}, api.MaxSigns+1), api.ErrMany},
		{slices.Repeat([]int{25}, 1000), api.ErrMany},
	}
	for _, bad := range []int{math.MinInt, -25, -1, api.MaxDeep + 1, api.MaxDeep + 2, 64, math.MaxInt} {
		for _, at := range []int{0, 1, 30, api.MaxSigns - 1} {
			l := slices.Repeat([]int{6}, api.MaxSigns)
			l[at] = bad
			all = append(all, wrongList{l, api.ErrRange}, wrongList{l[:at+1], api.ErrRange})
		}
	}
	return all
}

// chain returns 1, 2, and so on up to most, with most twice, so that there is no room left.
func chain(most int) []int {
	var l []int
	for width := range most {
		l = append(l, width+1)
	}
	return append(l, most)
}

func wantRoom(t *testing.T, l []int, room int, err api.Errno) {
	t.Helper()
	if gotRoom, gotErr := kraft.Room(l); gotRoom != room || gotErr != err {
		t.Errorf("Room of %v: %d %d, must be %d %d", l, gotRoom, gotErr, room, err)
	}
}

// wantCodes fails unless Codes returns the bits of these texts.
func wantCodes(t *testing.T, l []int, texts []string) {
	t.Helper()
	codes, err := kraft.Codes(l)
	if err != api.OK || len(codes) != len(texts) {
		t.Fatalf("Codes of %v: %v %d, must be %q", l, codes, err, texts)
	}
	for i, text := range texts {
		sample.WantBits(t, "Codes", codes[i], err, text, api.OK)
	}
}

func wantNoCodes(t *testing.T, l []int, wantErr api.Errno) {
	t.Helper()
	if codes, err := kraft.Codes(l); len(codes) != 0 || err != wantErr {
		t.Errorf("Codes of %v: %v %d, must be no codes and %d", l, codes, err, wantErr)
	}
}

func TestG1CheckTakesLists(t *testing.T) {
	all := [][]int{nil, {}, make([]int, api.MaxSigns), slices.Repeat([]int{1}, api.MaxSigns), slices.Repeat([]int{api.MaxDeep}, api.MaxSigns)}
	for width := range api.MaxDeep + 1 {
		all = append(all, []int{width}, []int{0, width}, []int{width, 24})
	}
	for _, l := range all {
		if err := kraft.Check(l); err != api.OK {
			t.Errorf("Check of %v: %d", l, err)
		}
	}
}

func TestG1CheckRefusesWrongLists(t *testing.T) {
	for _, w := range wrongLists() {
		if err := kraft.Check(w.l); err != w.err {
			t.Errorf("Check of %v: %d, must be %d", w.l, err, w.err)
		}
	}
}

func TestG1RoomByHand(t *testing.T) {
	for _, c := range []struct {
		l    []int
		room int
	}{
		{nil, 1 << 24},
		{[]int{}, 1 << 24},
		{[]int{0}, 1 << 24},
		{make([]int, api.MaxSigns), 1 << 24},
		{[]int{1}, 1 << 23},
		{[]int{1, 1}, 0},
		{[]int{1, 0, 1}, 0},
		{[]int{1, 1, 1}, -1 << 23},
		{[]int{2, 0, 1, 3, 3}, 0},
		{[]int{3, 3, 3}, 5 << 21},
		{[]int{24}, 1<<24 - 1},
		{[]int{24, 23, 0, 24}, 1<<24 - 4},
		{chain(24), 0},
		{append(chain(24), 24), -1},
		{slices.Repeat([]int{6}, api.MaxSigns), 0},
		{slices.Repeat([]int{1}, api.MaxSigns), -31 << 24},
		{slices.Repeat([]int{24}, api.MaxSigns), 1<<24 - 64},
	} {
		wantRoom(t, c.l, c.room, api.OK)
	}
	for width := 1; width <= api.MaxDeep; width++ {
		wantRoom(t, []int{width}, 1<<24-1<<24>>width, api.OK)
	}
}

func TestG1RoomErrors(t *testing.T) {
	for _, w := range wrongLists() {
		wantRoom(t, w.l, 0, w.err)
	}
}

func TestG2CodesByHand(t *testing.T) {
	for _, c := range []struct {
		l     []int
		texts []string
	}{
		{nil, nil},
		{[]int{}, nil},
		{[]int{0, 0}, []string{"", ""}},
		{[]int{1}, []string{"0"}},
		{[]int{5}, []string{"00000"}},
		{[]int{1, 1}, []string{"0", "1"}},
		{[]int{2, 0, 1, 3, 3}, []string{"10", "", "0", "110", "111"}},
		{[]int{3, 3, 3}, []string{"000", "001", "010"}},
		{[]int{4, 2, 0, 4, 2}, []string{"1000", "00", "", "1001", "01"}},
		{[]int{5, 1}, []string{"10000", "0"}},
		{[]int{9, 8, 2}, []string{"010000010", "01000000", "00"}},
		{[]int{24, 1}, []string{"1" + strings.Repeat("0", 23), "0"}},
	} {
		wantCodes(t, c.l, c.texts)
	}
	wantCodes(t, make([]int, api.MaxSigns), make([]string, api.MaxSigns))
}

func TestG2CodesOfEachShortList(t *testing.T) {
	for many := range 6 {
		for _, l := range sample.Lists(many, 4) {
			if room, _ := kraft.Room(l); room < 0 {
				wantNoCodes(t, l, api.ErrFull)
			} else {
				wantCodes(t, l, sample.Words(l))
			}
		}
	}
}

func TestG2CodesUpToTheLastRoom(t *testing.T) {
	for most := 1; most <= api.MaxDeep; most++ {
		l := chain(most)
		for range l {
			wantCodes(t, l, sample.Words(l))
			for _, width := range []int{1, most, api.MaxDeep} {
				wantNoCodes(t, append(slices.Clone(l), width), api.ErrFull)
			}
			l = append(l[1:], l[0])
		}
	}
	for _, width := range []int{6, 7, 8, 9, 16, 23, 24} {
		all := slices.Repeat([]int{width}, api.MaxSigns)
		wantCodes(t, all, sample.Words(all))
	}
	six := slices.Repeat([]int{6}, api.MaxSigns)
	six[20] = 5
	wantNoCodes(t, six, api.ErrFull)
}

func TestG2CodesErrors(t *testing.T) {
	for _, w := range wrongLists() {
		wantNoCodes(t, w.l, w.err)
	}
}

// There are codes if and only if there is room for them, and none of them is a prefix of another one.
func TestG2G3CodesAreApart(t *testing.T) {
	for _, l := range append(sample.Lists(5, 4), chain(24), slices.Repeat([]int{6}, api.MaxSigns), []int{24, 9, 1, 3, 24, 17}) {
		codes, err := kraft.Codes(l)
		if apart, apartErr := kraft.Apart(codes); err == api.OK && (!apart || apartErr != api.OK) {
			t.Errorf("Apart of the codes for %v: %v %d", l, apart, apartErr)
		}
	}
}
