package huff_test

import (
	"cmp"
	"maps"
	"math"
	"slices"
	"testing"

	"lampwright/api"
	"lampwright/huff"
	"lampwright/internal/sample"
	"lampwright/kraft"
)

// lengths follows the rule of H1; each symbol is marked with the smallest one of its group.
func lengths(often []int) []int {
	l, mark := make([]int, len(often)), make([]int, len(often))
	for symbol := range often {
		mark[symbol] = symbol
	}
	for round := 0; ; round++ {
		weights := map[int]int{}
		for symbol, n := range often {
			if n > 0 {
				weights[mark[symbol]] += n
			}
		}
		marks := slices.SortedFunc(maps.Keys(weights), func(a, b int) int {
			return cmp.Or(weights[a]-weights[b], a-b)
		})
		if len(marks) == 1 && round == 0 {
			l[marks[0]] = 1
		}
		if len(marks) < 2 {
			return l
		}
		for symbol, n := range often {
			if n > 0 && (mark[symbol] == marks[0] || mark[symbol] == marks[1]) {
				l[symbol]++
				mark[symbol] = min(marks[0], marks[1])
			}
		}
	}
}

// fibonacci returns so many frequencies that each group but one is a symbol by itself.
func fibonacci(many int) []int {
	l := []int{1, 1}
	for len(l) < many {
		l = append(l, l[len(l)-1]+l[len(l)-2])
	}
	return l[:many]
}

// scattered returns so many numbers from 0 to most; each start has others.
func scattered(many, most, start int) []int {
	var l []int
	x := uint64(start)
	for range many {
		x = x*6364136223846793005 + 1442695040888963407
		l = append(l, int(x>>33)%(most+1))
	}
	return l
}

// oddOften are lists that Lengths and Cost refuse for their frequencies.
func oddOften() [][]int {
	all := [][]int{append(fibonacci(26), -1), append([]int{api.MaxOften + 1}, fibonacci(26)...)}
	for _, bad := range []int{math.MinInt, -1, api.MaxOften + 1, math.MaxInt} {
		for _, at := range []int{0, 1, 40, api.MaxSigns - 1} {
			often := slices.Repeat([]int{3}, api.MaxSigns)
			often[at] = bad
			all = append(all, often, often[:at+1])
		}
	}
	return all
}

func wantLengths(t *testing.T, often, l []int, err api.Errno) {
	t.Helper()
	if gotL, gotErr := huff.Lengths(often); !slices.Equal(gotL, l) || gotErr != err {
		t.Errorf("Lengths of %v: %v %d, must be %v %d", often, gotL, gotErr, l, err)
	}
}

func wantCost(t *testing.T, often, l []int, cost int, err api.Errno) {
	t.Helper()
	if gotCost, gotErr := huff.Cost(often, l); gotCost != cost || gotErr != err {
		t.Errorf("Cost of %v and %v: %d %d, must be %d %d", often, l, gotCost, gotErr, cost, err)
	}
}

func TestH1LengthsByHand(t *testing.T) {
	for _, c := range []struct{ often, l []int }{
		{nil, nil},
		{[]int{0}, []int{0}},
		{[]int{5}, []int{1}},
		{[]int{0, 7, 0}, []int{0, 1, 0}},
		{[]int{1, 1}, []int{1, 1}},
		{[]int{9, 0, 1}, []int{1, 0, 1}},
		{[]int{1, 1, 1}, []int{2, 2, 1}},
		{[]int{1, 1, 1, 1}, []int{2, 2, 2, 2}},
		{[]int{1, 1, 1, 1, 1}, []int{3, 3, 2, 2, 2}},
		{[]int{1, 2, 3, 4}, []int{3, 3, 2, 1}},
		// The group of 0 and 1 weighs as much as 2, and has a smaller symbol than 2 and 3.
		{[]int{1, 1, 2, 2}, []int{3, 3, 2, 1}},
		// The group of 2 and 3 weighs as much as 0 and 1, which have smaller symbols.
		{[]int{2, 2, 1, 1}, []int{2, 2, 2, 2}},
		// The group of 1 and 3 weighs as much as 0 and 2, and 1 is between these.
		{[]int{2, 1, 2, 1}, []int{2, 3, 1, 3}},
		{[]int{3, 0, 20, 10, 11}, []int{3, 0, 1, 3, 2}},
		{make([]int, api.MaxSigns), make([]int, api.MaxSigns)},
		{slices.Repeat([]int{api.MaxOften}, api.MaxSigns), slices.Repeat([]int{6}, api.MaxSigns)},
	} {
		wantLengths(t, c.often, c.l, api.OK)
	}
}

func TestH1LengthsOfEachShortList(t *testing.T) {
	for many := range 7 {
		for _, often := range sample.Lists(many, 3) {
			wantLengths(t, often, lengths(often), api.OK)
		}
	}
	for _, often := range sample.Lists(4, 8) {
		wantLengths(t, often, lengths(often), api.OK)
	}
}

func TestH1LengthsOfLongLists(t *testing.T) {
	for start := range 300 {
		for _, most := range []int{2, 5, 100, api.MaxOften} {
			often := scattered(start%(api.MaxSigns+1), most, start)
			wantLengths(t, often, lengths(often), api.OK)
		}
	}
}

func TestH1LengthsUpToTheDeepest(t *testing.T) {
	for many := 3; many <= 25; many++ {
		often := fibonacci(many)
		wantLengths(t, often, lengths(often), api.OK)
		if l, _ := huff.Lengths(often); slices.Max(l) != many-1 {
			t.Errorf("Lengths of %v: %v, must go down to %d", often, l, many-1)
		}
		slices.Reverse(often)
		wantLengths(t, often, lengths(often), api.OK)
	}
	for many := 26; many <= 30; many++ {
		often := fibonacci(many)
		wantLengths(t, often, nil, api.ErrFull)
		slices.Reverse(often)
		wantLengths(t, often, nil, api.ErrFull)
		wantLengths(t, append(often, make([]int, api.MaxSigns-many)...), nil, api.ErrFull)
	}
}

func TestH1LengthsErrors(t *testing.T) {
	wantLengths(t, []int{api.MaxOften}, []int{1}, api.OK)
	wantLengths(t, make([]int, api.MaxSigns+1), nil, api.ErrMany)
	wantLengths(t, slices.Repeat([]int{-1}, api.MaxSigns+1), nil, api.ErrMany)
	wantLengths(t, append(fibonacci(26), make([]int, api.MaxSigns)...), nil, api.ErrMany)
	for _, often := range oddOften() {
		wantLengths(t, often, nil, api.ErrRange)
	}
}

// No code costs less.
func TestH1H2LengthsCostTheLeast(t *testing.T) {
	var lists [][]int
	for _, l := range sample.Lists(4, 4) {
		if room, _ := kraft.Room(l); room >= 0 {
			lists = append(lists, l)
		}
	}
	for _, often := range sample.Lists(4, 5) {
		least := math.MaxInt
		for _, l := range lists {
			if cost, ok := sum(often, l); ok {
				least = min(least, cost)
			}
		}
		l, _ := huff.Lengths(often)
		wantCost(t, often, l, least, api.OK)
		if room, err := kraft.Room(l); room < 0 || err != api.OK {
			t.Errorf("Room of the lengths %v: %d %d", l, room, err)
		}
	}
}

// sum adds up what a code costs that has bits for all symbols that occur.
func sum(often, l []int) (int, bool) {
	cost := 0
	for symbol, n := range often {
		if n > 0 && l[symbol] == 0 {
			return 0, false
		}
		cost += n * l[symbol]
	}
	return cost, true
}

func TestH2CostByHand(t *testing.T) {
	for _, c := range []struct {
		often, l []int
		cost     int
	}{
		{nil, nil, 0},
		{[]int{0}, []int{0}, 0},
		{[]int{0}, []int{24}, 0},
		{[]int{7}, []int{1}, 7},
		{[]int{2, 3}, []int{5, 6}, 28},
		{[]int{2, 0, 3}, []int{5, 0, 6}, 28},
		{[]int{2, 1, 3}, []int{1, 1, 1}, 6},
		{[]int{api.MaxOften, 1}, []int{24, 1}, 24<<20 + 1},
		{slices.Repeat([]int{api.MaxOften}, api.MaxSigns), slices.Repeat([]int{24}, api.MaxSigns), 64 * 24 << 20},
	} {
		wantCost(t, c.often, c.l, c.cost, api.OK)
	}
	for start := range 100 {
		often := scattered(30, 50, start)
		l, _ := huff.Lengths(often)
		cost, _ := sum(often, l)
		wantCost(t, often, l, cost, api.OK)
	}
}

func TestH2CostErrors(t *testing.T) {
	for _, c := range []struct {
		often, l []int
		err      api.Errno
	}{
		{nil, make([]int, api.MaxSigns+1), api.ErrMany},
		{[]int{-1}, slices.Repeat([]int{25}, api.MaxSigns+1), api.ErrMany},
		{[]int{1}, []int{25}, api.ErrRange},
		{[]int{1}, []int{-1}, api.ErrRange},
		{[]int{1, 1}, []int{25}, api.ErrRange},
		{[]int{1}, []int{1, 1}, api.ErrForm},
		{[]int{1, 1}, []int{1}, api.ErrForm},
		{nil, []int{0}, api.ErrForm},
		{[]int{0}, nil, api.ErrForm},
		{[]int{-1}, []int{1, 1}, api.ErrForm},
		{make([]int, api.MaxSigns+1), make([]int, api.MaxSigns), api.ErrForm},
		{[]int{1}, []int{0}, api.ErrState},
		{[]int{1, 0}, []int{0, 1}, api.ErrState},
		{[]int{4, 4, 4}, []int{1, 2, 0}, api.ErrState},
		{[]int{4, api.MaxOften}, []int{1, 0}, api.ErrState},
		// All frequencies come before all symbols without bits.
		{[]int{1, -1}, []int{0, 1}, api.ErrRange},
		{[]int{1, -1}, []int{0, 0}, api.ErrRange},
		{[]int{1, api.MaxOften + 1}, []int{0, 1}, api.ErrRange},
	} {
		wantCost(t, c.often, c.l, 0, c.err)
	}
	for _, often := range oddOften() {
		wantCost(t, often, slices.Repeat([]int{6}, len(often)), 0, api.ErrRange)
		wantCost(t, often, make([]int, len(often)), 0, api.ErrRange)
	}
}
