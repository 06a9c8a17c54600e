package sample

import (
	"slices"
	"testing"

	"lampwright/api"
)

func TestSucc(t *testing.T) {
	// The example of the document, and without a reference or runs.
	l, from := []int{2, 3, 4, 5, 9, 20}, []int{3, 9, 11}
	if got := Succ(7, l, from, api.How{Back: 1, Least: 3, K: 3}); got != "00111"+"010"+"011"+"1"+"0100010"+"1010"+"100"+"0100111" {
		t.Errorf("Succ: %s", got)
	}
	if got := Succ(7, l, from, api.How{Least: 2, K: 1}); got != "00111"+"010"+"0001010"+"011"+Gaps([]int{9, 20}, 7, 1) {
		t.Errorf("Succ: %s", got)
	}
	if got := Succ(7, l, from, api.How{K: 1}); got != "00111"+Gaps(l, 7, 1) {
		t.Errorf("Succ: %s", got)
	}
	if Succ(7, nil, from, api.How{Back: 1, Least: 3, K: 3}) != "1" || Succ(7, from, from, api.How{Back: 1, Least: 3, K: 3}) != "00100"+"1" {
		t.Error("Succ does not spell the least lists")
	}
}

func TestBlocksAndRuns(t *testing.T) {
	if Blocks(nil) != "1" || Blocks([]int{0, 1, 2}) != "00100"+"1"+"1"+"010" {
		t.Error("Blocks does not spell the blocks")
	}
	if Runs(5, 3) != "1" || Runs(5, 2, api.Run{From: 4, Many: 3}, api.Run{From: 8, Many: 2}) != "011"+"010"+"010"+"1"+"1" {
		t.Error("Runs does not spell the runs")
	}
}

func TestPack(t *testing.T) {
	g := Graph([]int{0, 1}, []int{0, 1}, []int{0, 1}, nil)
	for _, c := range []struct {
		h             api.How
		text          string
		backs, starts []int
	}{
		{api.How{K: 1}, "011" + "1" + "1" + "011" + "010" + "1" + "011" + "00100" + "1" + "1", []int{0, 0, 0, 0}, []int{0, 5, 12, 21}},
		{api.How{Back: 2, K: 1}, "1" + "011" + "1" + "1" + "010" + "011" + "1" + "010" + "011" + "1" + "1" + "1", []int{0, 1, 1, 0}, []int{0, 6, 13, 20}},
	} {
		text, backs, starts := Pack(g, c.h)
		if text != c.text || !slices.Equal(backs, c.backs) || !slices.Equal(starts, c.starts) {
			t.Errorf("Pack: %s %v %v", text, backs, starts)
		}
	}
	if got := PackNode(g, 2, 2, api.How{Back: 3, K: 1}); got != "011"+"011"+"1" {
		t.Errorf("PackNode: %s", got)
	}
}

func TestHows(t *testing.T) {
	right := func(h api.How) bool {
		return 0 <= h.Back && h.Back <= 7 && (h.Least == 0 || 2 <= h.Least && h.Least <= 300) && 1 <= h.K && h.K <= 16
	}
	if !slices.ContainsFunc(OddHows(), right) {
		t.Error("all of OddHows are wrong")
	}
	if slices.ContainsFunc(WrongHows(), right) || slices.ContainsFunc(Hows(), func(h api.How) bool { return !right(h) }) {
		t.Error("Hows are not right, or WrongHows are")
	}
}
