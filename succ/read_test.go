package succ_test

import (
	"math"
	"strings"
	"testing"

	"lampwright/api"
	"lampwright/internal/sample"
	"lampwright/succ"
)

// mixedLists are lists in which there are copies, runs and other numbers, and their references.
func mixedLists() [][2][]int {
	return [][2][]int{
		{nil, {1, 3}},
		{{4}, nil},
		{{2, 3, 4, 5, 9, 20}, {3, 9, 11}},
		{{1, 2, 3, 5, 6, 8, 9, 10, 11, 40, 41, 700}, {0, 2, 4, 6, 40, 41, 42}},
		{{0, 1, 2, 3, 1000, 1001, 1002, top - 1, top}, {1, 1000, top}},
		{sample.Steps(3, 2, 20), sample.Steps(0, 3, 20)},
	}
}

func TestL3ReadReadsWhatIsWritten(t *testing.T) {
	for _, h := range sample.Hows() {
		for i, c := range mixedLists() {
			l, from, node := c[0], c[1], []int{0, 2, 7, 30, top, top - 5}[i]
			text := sample.Succ(node, l, from, h)
			for at := range 9 {
				start := sample.Mixed(at)
				for _, end := range []string{"", "0", "1", strings.Repeat("0", 70), strings.Repeat("1", 70), sample.Mixed(70)} {
					wantRead(t, sample.Bits(start+text+end), at, node, from, h, l, at+len(text), api.OK)
				}
			}
			// If it ends too early, no list is read.
			for end := range text {
				wantRead(t, sample.Bits(text[:end]), 0, node, from, h, nil, 0, api.ErrForm)
			}
		}
	}
}

func TestL3ReadUpToTheLastBit(t *testing.T) {
	for _, h := range sample.Hows() {
		for _, c := range mixedLists() {
			text := sample.Succ(7, c[0], c[1], h)
			at := api.MaxLen - len(text)
			full := sample.Bits(sample.Mixed(at) + text)
			wantRead(t, full, at, 7, c[1], h, c[0], api.MaxLen, api.OK)
			wantRead(t, full, api.MaxLen, 7, c[1], h, nil, 0, api.ErrForm)
			wantRead(t, full, api.MaxLen+1, 7, c[1], h, nil, 0, api.ErrRange)
		}
	}
}

// shortLists are all lists that at most 12 bits can tell with a node and a reference of numbers less than 4, and many others.
func shortLists() [][]int {
	all := sample.Rising(12)
	for b := 12; b < 70; b++ {
		all = append(all, []int{b})
		for a := range b {
			all = append(all, []int{a, b})
		}
	}
	return all
}

// wantShortTexts fails unless of all texts of at most longest signs exactly those that begin with what L2 says of a list are read, as this list.
func wantShortTexts(t *testing.T, longest, node int, from []int, h api.How) {
	t.Helper()
	lists := map[string][]int{}
	for _, l := range shortLists() {
		text := sample.Succ(node, l, from, h)
		if _, ok := lists[text]; ok {
			t.Errorf("%s tells two lists", text)
		}
		if len(text) <= longest {
			lists[text] = l
		}
	}
	for _, text := range sample.Texts(longest) {
		l, after, err := []int(nil), 0, api.ErrForm
		for end := range len(text) + 1 {
			if found, ok := lists[text[:end]]; ok {
				l, after, err = found, end, api.OK
			}
		}
		wantRead(t, sample.Bits(text), 0, node, from, h, l, after, err)
		if err == api.OK {
			after += 5
		}
		wantRead(t, sample.Bits("10110"+text), 5, node, from, h, l, after, err)
	}
}

func TestL3ReadOfEachShortText(t *testing.T) {
	for _, k := range []int{1, 2} {
		for node := range 3 {
			for _, least := range []int{0, 2, 3} {
				wantShortTexts(t, 12, node, []int{3, 3}, api.How{Least: least, K: k})
				for _, from := range [][]int{nil, {2}, {0, 1}, {1, 2, 3}} {
					wantShortTexts(t, 12, node, from, api.How{Back: 1, Least: least, K: k})
				}
			}
		}
	}
}

// wantNone fails unless no list is read from the text, wherever it stands and whatever follows, nor from a part of it.
func wantNone(t *testing.T, text string, node int, from []int, h api.How) {
	t.Helper()
	for _, start := range []string{"", "1", sample.Mixed(13)} {
		for _, end := range []string{"", "0", "1", strings.Repeat("0", 100), strings.Repeat("1", 100), sample.Mixed(150)} {
			wantRead(t, sample.Bits(start+text+end), len(start), node, from, h, nil, 0, api.ErrForm)
		}
	}
	for end := range text {
		wantRead(t, sample.Bits(text[:end]), 0, node, from, h, nil, 0, api.ErrForm)
	}
}

// other spells a list of many elements in a way that may not be that of L2: with these blocks and runs, and then other numbers.
func other(many uint64, node int, h api.How, blocks []int, long []api.Run, single []int) string {
	text := sample.Gamma(many)
	if h.Back != 0 {
		text += sample.Blocks(blocks)
	}
	if h.Least != 0 {
		text += sample.Runs(node, h.Least, long...)
	}
	return text + sample.Gaps(single, node, h.K)
}

func TestL3ReadRefusesOtherBlocks(t *testing.T) {
	h, from := api.How{Back: 1, K: 2}, []int{1, 3, 8, 9}
	for _, c := range []struct {
		many   uint64
		blocks []int
		single []int
		right  bool
	}{
		{4, nil, nil, true},
		{2, []int{2}, nil, true},
		{3, []int{1, 1}, nil, true},
		{2, []int{0, 1, 2}, nil, true},
		{4, []int{2}, []int{0, 4}, true},
		{2, []int{0}, []int{0, 4}, true},
		// There are fewer blocks that copy the same elements.
		{4, []int{4}, nil, false},
		{2, []int{2, 2}, nil, false},
		{3, []int{1, 1, 2}, nil, false},
		{2, []int{0, 1, 2, 1}, nil, false},
		{1, []int{0, 4}, []int{0}, false},
		{4, []int{2, 2}, []int{0, 4}, false},
		{2, []int{0, 1, 1, 1, 1}, nil, false},
		// There are more blocks, or more elements in them, than there are elements.
		{2, []int{0, 1, 1, 1, 1, 1}, nil, false},
		{5, []int{5}, nil, false},
		{2, []int{2, 3}, nil, false},
		{2, []int{2, 1 << 40}, nil, false},
		{2, []int{2, 1<<40 + 1}, nil, false},
		{300, []int{1 << 40}, nil, false},
		// Elements that could be copied are not.
		{2, []int{1}, []int{3}, false},
		{2, []int{0}, []int{1, 3}, false},
		{3, []int{2}, []int{9}, false},
		// An element is in both.
		{3, []int{2}, []int{3}, false},
		{5, nil, []int{8}, false},
		// More elements are copied than there are.
		{1, []int{2}, nil, false},
		{3, nil, nil, false},
		{2, []int{3}, []int{0}, false},
	} {
		text := other(c.many, 2, h, c.blocks, nil, c.single)
		if !c.right {
			wantNone(t, text, 2, from, h)
		} else if l, after, err := succ.Read(sample.Bits(text), 0, 2, from, h); len(l) != int(c.many) || after != len(text) || err != api.OK {
			t.Errorf("Read of %s: %v %d %d", text, l, after, err)
		}
	}
}

func TestL3ReadRefusesOtherRuns(t *testing.T) {
	run := func(from, many int) api.Run { return api.Run{From: from, Many: many} }
	for _, c := range []struct {
		many   uint64
		node   int
		long   []api.Run
		single []int
		right  bool
	}{
		{3, 5, []api.Run{run(4, 3)}, nil, true},
		{7, 5, []api.Run{run(4, 3), run(8, 3)}, []int{0}, true},
		{6, 5, []api.Run{run(4, 3)}, []int{1, 2, 8}, true},
		{3, top, []api.Run{run(top-2, 3)}, nil, true},
		{3, 0, []api.Run{run(0, 3)}, nil, true},
		{300, 0, []api.Run{run(0, 300)}, nil, true},
		// A run is not told as one, or not in full.
		{3, 5, nil, []int{4, 5, 6}, false},
		{7, 5, []api.Run{run(4, 3)}, []int{8, 9, 10, 20}, false},
		{4, 5, []api.Run{run(4, 3)}, []int{7}, false},
		{4, 5, []api.Run{run(4, 3)}, []int{3}, false},
		{7, 5, []api.Run{run(4, 3), run(8, 3)}, []int{7}, false},
		{8, 5, []api.Run{run(4, 3)}, []int{8, 9, 10, 11, 20}, false},
		// A number is in both.
		{4, 5, []api.Run{run(4, 3)}, []int{4}, false},
		{4, 5, []api.Run{run(4, 3)}, []int{6}, false},
		// The runs have more numbers than there are.
		{2, 5, []api.Run{run(4, 3)}, nil, false},
		{3, 5, []api.Run{run(4, 4)}, nil, false},
		{5, 5, []api.Run{run(4, 3), run(8, 3)}, nil, false},
		{1, 5, []api.Run{run(4, 3)}, []int{0}, false},
		{300, 0, []api.Run{run(0, 301)}, nil, false},
		{300, 0, []api.Run{run(0, 1<<40)}, nil, false},
		// Numbers are less than 0, or greater than MaxNode.
		{3, 0, []api.Run{run(-1, 3)}, nil, false},
		{3, 0, []api.Run{run(-2, 3)}, nil, false},
		{3, top, []api.Run{run(top-1, 3)}, nil, false},
		{3, top, []api.Run{run(top+1, 3)}, nil, false},
		{6, 0, []api.Run{run(0, 3), run(top-1, 3)}, nil, false},
		{6, 0, []api.Run{run(0, 3), run(1<<40, 3)}, nil, false},
		{3, 0, []api.Run{run(1<<39, 3)}, nil, false},
	} {
		for _, h := range []api.How{{Least: 3, K: 1}, {Back: 2, Least: 3, K: 5}} {
			text := other(c.many, c.node, h, nil, c.long, c.single)
			if !c.right {
				wantNone(t, text, c.node, nil, h)
			} else if l, after, err := succ.Read(sample.Bits(text), 0, c.node, nil, h); len(l) != int(c.many) || after != len(text) || err != api.OK {
				t.Errorf("Read of %s: %v %d %d", text, l, after, err)
			}
		}
	}
}

func TestL3ReadRefusesNumbersThatMayNotStandThere(t *testing.T) {
	for _, node := range []int{0, 1, top} {
		for _, h := range sample.Hows() {
			// More elements than there may be, and numbers that no code tells.
			for _, many := range []uint64{most + 1, 1000, api.MaxNum, api.MaxNum + 1, 1 << 62} {
				wantNone(t, sample.Gamma(many), node, nil, h)
			}
			wantNone(t, strings.Repeat("0", 70)+"1", node, nil, h)
			wantRead(t, sample.Bits(strings.Repeat("0", api.MaxLen)), 0, node, nil, h, nil, 0, api.ErrForm)
		}
	}
	h := api.How{K: 1}
	for many := most - 1; many <= most; many++ {
		text := sample.Gamma(uint64(many)) + strings.Repeat("1", many)
		wantRead(t, sample.Bits(text), 0, 4, nil, h, sample.Steps(4, 1, many), len(text), api.OK)
	}
	wantNone(t, sample.Gamma(most+1)+strings.Repeat("1", most+1), 4, nil, h)
	for _, c := range []struct {
		node int
		l    []int
	}{{0, []int{-1}}, {3, []int{-4}}, {top, []int{top + 1}}, {0, []int{top + 1}}, {top, []int{top, top + 1}}, {9, []int{0, top + 1}}, {9, []int{1 << 39}}, {9, []int{0, 1 << 40}}} {
		for k := 1; k <= 16; k++ {
			wantNone(t, sample.Gamma(uint64(len(c.l)))+sample.Gaps(c.l, c.node, k), c.node, nil, api.How{K: k})
		}
	}
	// How many blocks, and how many runs, there are.
	for _, many := range []uint64{1, 2, most, most + 1, api.MaxNum, api.MaxNum + 1} {
		wantNone(t, "010"+sample.Gamma(many)+strings.Repeat("1", 400), 4, nil, api.How{Back: 1, K: 1})
		wantNone(t, "010"+sample.Gamma(many)+strings.Repeat("1", 800), 4, nil, api.How{Least: 2, K: 1})
	}
}

// From bits in which one is wrong, a list is read only if they are those that are written for this list.
func TestL4OneListForBitsAndOneSequenceOfBitsForAList(t *testing.T) {
	for _, h := range sample.Hows() {
		for _, c := range mixedLists() {
			text, from := sample.Succ(7, c[0], c[1], h)+sample.Mixed(40), c[1]
			for i, sign := range text {
				changed := text[:i] + map[rune]string{'0': "1", '1': "0"}[sign] + text[i+1:]
				l, after, err := succ.Read(sample.Bits(changed), 0, 7, from, h)
				if err == api.ErrForm && len(l) == 0 && after == 0 {
					continue
				}
				if err != api.OK || after > len(changed) || sample.Succ(7, l, from, h) != changed[:after] {
					t.Errorf("Read of %s by %v, %v: %v %d %d", changed, from, h, l, after, err)
				}
			}
		}
	}
}

// These are wrong in this order; what the bits are comes last.
func TestL3ReadErrors(t *testing.T) {
	backed, plain := api.How{Back: 1, Least: 3, K: 3}, api.How{Least: 2, K: 1}
	for _, h := range sample.WrongHows() {
		wantRead(t, sample.Bits("1"), 0, 5, nil, h, nil, 0, api.ErrRange)
		for _, w := range sample.WrongBits() {
			wantRead(t, w.Bits, -1, -1, []int{3, 3}, h, nil, 0, api.ErrRange)
		}
	}
	for _, h := range []api.How{backed, plain} {
		for _, w := range sample.WrongBits() {
			for _, node := range append(wrongNodes(), 5) {
				for _, at := range []int{math.MinInt, -1, 0, 1, w.Bits.Len, math.MaxInt} {
					wantRead(t, w.Bits, at, node, []int{3, 3}, h, nil, 0, w.Err)
				}
			}
		}
		for _, text := range []string{"", "1", "0", sample.Mixed(30), strings.Repeat("1", api.MaxLen)} {
			for _, from := range [][]int{nil, {3, 3}, make([]int, most+1)} {
				for _, at := range []int{math.MinInt, -8, -1, len(text) + 1, len(text) + 8, math.MaxInt} {
					wantRead(t, sample.Bits(text), at, 5, from, h, nil, 0, api.ErrRange)
				}
				for _, node := range wrongNodes() {
					wantRead(t, sample.Bits(text), 0, node, from, h, nil, 0, api.ErrRange)
				}
			}
		}
	}
	for _, w := range sample.WrongLists() {
		for _, text := range []string{"", "1", "0", "0110", sample.Mixed(30)} {
			wantRead(t, sample.Bits(text), 0, 5, w.List, backed, nil, 0, w.Err)
		}
		// Without a reference, from is ignored.
		wantRead(t, sample.Bits("11"), 1, 5, w.List, plain, nil, 2, api.OK)
		wantRead(t, sample.Bits("0101110"), 0, 5, w.List, api.How{K: 1}, []int{5}, 4, api.OK)
		wantRead(t, sample.Bits("0"), 0, 5, w.List, plain, nil, 0, api.ErrForm)
	}
}
