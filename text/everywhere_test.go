package text_test

import (
	"strings"
	"testing"

	"lampwright/api"
	"lampwright/graph"
	"lampwright/internal/sample"
	"lampwright/text"
)

// oddTexts are right and wrong texts.
func oddTexts() []string {
	all := []string{"", "\x00", "\xff\xfe", "\xff\n\xff", "2\n0 \xc3", "2\n\u0660 1", strings.Repeat("9", api.MaxText), strings.Repeat("\xff", api.MaxText+1), strings.Repeat("\n", api.MaxText), strings.Repeat("0 ", 9000), strings.Repeat("# ", 9000), strings.Repeat("1\n", 999), "1\n-9223372036854775808 9223372036854775808"}
	for _, s := range []string{"3\n0 1\n#\n 1 2 \n", "0\n", "# only", "100\n99 99"} {
		for i := range len(s) + 1 {
			all = append(all, s[:i], s[i:], s[:i]+"\x00"+s[i:], s[:i]+"\xff"+s[i:], s[:i]+"0"+s[i:], s[:i]+"\n"+s[i:])
		}
	}
	return all
}

func TestP1ReturnsForAllArguments(t *testing.T) {
	for _, g := range sample.OddGraphs() {
		if s, err := text.Print(g); err != api.OK && s != "" || (err == api.OK) != (s != "") {
			t.Errorf("Print: %q beside the error %d", s, err)
		}
	}
	for _, s := range oddTexts() {
		g, fault := text.Parse(s)
		if graph.Check(g) != api.OK || fault.Err != api.OK && len(g.Next) != 0 || fault.Err == api.OK && fault.Line != 0 {
			t.Errorf("Parse of %.80q: %v beside the fault %v", s, g, fault)
		}
	}
}

func TestP2ArgumentsStayAsTheyAre(t *testing.T) {
	for _, g := range append(sample.OddGraphs(), sample.Graphs(2)...) {
		m := sample.AroundGraph(g, 1)
		text.Print(m.Graph)
		if m.Changed() {
			t.Errorf("the graph %v is changed", g)
		}
	}
}

func TestP2ResultsShareNoMemory(t *testing.T) {
	for _, g := range rightGraphs() {
		s := spelled(g)
		parsed, _ := text.Parse(s)
		again, _ := text.Parse(s)
		if sample.ShareMemory(append(parsed.Next, again.Next...)...) {
			t.Errorf("the lists of %v share memory", g)
		}
		sample.FlipGraph(parsed)
		wantParsed(t, s, g)
	}
}

func TestP2EmptyListsCanBeNilOrNot(t *testing.T) {
	for _, next := range [][][]int{nil, {}} {
		wantPrinted(t, api.Graph{Next: next}, "0\n", api.OK)
	}
	for _, l := range [][]int{nil, {}} {
		wantPrinted(t, sample.Graph(l, []int{0}, l), "3\n1 0\n", api.OK)
	}
}

func TestP3EachCallIsByItself(t *testing.T) {
	g := sample.Graph([]int{1, 2}, nil, []int{0})
	for range 3 {
		wantPrinted(t, g, "3\n0 1\n0 2\n2 0\n", api.OK)
		wantPrinted(t, sample.Graph([]int{1}), "", api.ErrRange)
		wantParsed(t, "3\n0 1\n0 2\n2 0\n", g)
		wantFault(t, "3\n0 1\n0 1\n", 3, api.ErrTwice)
		wantFault(t, "0 1\n", 1, api.ErrForm)
		wantParsed(t, "3\n2 0\n0 2\n0 1", g)
	}
}

func TestP4HoldsForMuch(t *testing.T) {
	wantPrinted(t, api.Graph{Next: make([][]int, 1<<22)}, "", api.ErrMany)
	wantPrinted(t, sample.Graph(sample.Steps(0, 1, 1<<22)), "", api.ErrRange)
	wantPrinted(t, sample.Graph(make([]int, 1<<22)), "", api.ErrState)
	for _, sign := range []string{" ", "\n", "#", "0", "\xff", "1\n", "0 0\n"} {
		wantFault(t, strings.Repeat(sign, 1<<26/len(sign)), 0, api.ErrMany)
	}
}
