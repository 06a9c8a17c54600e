package text_test

import (
	"fmt"
	"slices"
	"strings"
	"testing"

	"lampwright/api"
	"lampwright/internal/sample"
)

// Each number of nodes is allowed up to MaxNodes, and From and To up to the last node.
func TestR2NodesAtTheEdges(t *testing.T) {
	for n := range nodes + 3 {
		s := fmt.Sprintf("%d\n", n)
		if n > nodes {
			wantFault(t, s, 1, api.ErrRange)
			wantFault(t, s+"0 0\n0 0", 1, api.ErrRange)
			continue
		}
		wantParsed(t, s, sample.Full(n, 0))
		if n > 0 {
			g := sample.Full(n, 0)
			g.Next[n-1] = []int{n - 1}
			wantParsed(t, s+fmt.Sprintf("%d %d\n", n-1, n-1), g)
		}
		wantFault(t, s+fmt.Sprintf("%d 0\n", n), 2, api.ErrRange)
		wantFault(t, s+fmt.Sprintf("0 %d\n", n), 2, api.ErrRange)
		wantFault(t, s+fmt.Sprintf("%d %d\n", n, n), 2, api.ErrRange)
	}
}

// linesOf returns the lines of a graph, each with its end: the number of nodes, and then the arcs.
func linesOf(g api.Graph) []string { return slices.Collect(strings.Lines(spelled(g))) }

// The arcs can be in any order.
func TestR2ArcsInEachOrder(t *testing.T) {
	for _, g := range append(sample.MixedGraphs(), sample.EdgeGraphs()...) {
		lines := linesOf(g)
		slices.Reverse(lines[1:])
		wantParsed(t, strings.Join(lines, ""), g)
		var apart []string
		for i := range 7 {
			for j := 1 + i; j < len(lines); j += 7 {
				apart = append(apart, lines[j])
			}
		}
		wantParsed(t, lines[0]+strings.Join(apart, " "), g)
	}
}

func TestR2ErrManyArcsAtTheEdge(t *testing.T) {
	for _, g := range []api.Graph{sample.Full(nodes, 6), sample.Circle(nodes, 1, 20, 40, 50, 77, 99), sample.Circle(25, sample.Steps(1, 1, 24)...)} {
		lines := linesOf(g)
		whole := strings.Join(lines, "")
		if len(lines) != most+1 {
			t.Fatalf("there are %d lines", len(lines))
		}
		wantParsed(t, whole, g)
		wantParsed(t, whole+"\n# 9 9\n", g)
		// None of these graphs has this arc.
		const more = "9 9\n"
		wantFault(t, whole+more, most+2, api.ErrMany)
		wantFault(t, whole+strings.TrimSuffix(more, "\n"), most+2, api.ErrMany)
		wantFault(t, whole+"#\n\n"+more+"x\n", most+4, api.ErrMany)
		wantFault(t, lines[0]+more+strings.Join(lines[1:], ""), most+2, api.ErrMany)
		// Other faults of this line come before, and the faults of lines before it.
		wantFault(t, whole+lines[1], most+2, api.ErrTwice)
		wantFault(t, whole+lines[most], most+2, api.ErrTwice)
		wantFault(t, whole+"0 100\n", most+2, api.ErrRange)
		wantFault(t, whole+"100 0\n", most+2, api.ErrRange)
		wantFault(t, whole+"0\n", most+2, api.ErrForm)
		wantFault(t, whole+"0 x\n", most+2, api.ErrForm)
		wantFault(t, whole+lines[5]+more, most+2, api.ErrTwice)
		wantFault(t, strings.Join(lines[:most], "")+"#\n"+lines[1]+more, most+2, api.ErrTwice)
		wantFault(t, strings.Join(lines[:most], "")+more+lines[most], most+2, api.ErrMany)
	}
}

// An arc that occurred before is found wherever the two of them stand.
func TestR2ErrTwiceOfEachTwoArcs(t *testing.T) {
	lines := linesOf(sample.Circle(12, 0, 1, 2, 5, 6))
	whole := strings.Join(lines, "")
	for i, line := range lines[1:] {
		wantFault(t, whole+line, len(lines)+1, api.ErrTwice)
		wantFault(t, whole+" 0"+strings.Replace(line, " ", "   00", 1), len(lines)+1, api.ErrTwice)
		wantFault(t, lines[0]+line+strings.Join(lines[1:], ""), i+3, api.ErrTwice)
	}
}

func TestR2ErrManyBytesAtTheEdge(t *testing.T) {
	const most = api.MaxText
	g := sample.Graph([]int{1}, nil)
	for _, fill := range []func(many int) string{
		func(many int) string { return strings.Repeat(" ", many) + "2\n0 1\n" },
		func(many int) string { return "2" + strings.Repeat(" ", many) + "\n0 1\n" },
		func(many int) string { return "2\n0" + strings.Repeat(" ", many) + " 1\n" },
		func(many int) string { return "2\n0 1\n#" + strings.Repeat("x", many-1) },
		func(many int) string { return "#" + strings.Repeat("\xff", many-2) + "\n2\n0 1\n" },
		func(many int) string {
			return strings.Repeat("#"+strings.Repeat(" ", 28)+"\n", many/30) + strings.Repeat(" ", many%30) + "2\n0 1\n"
		},
	} {
		used := len(fill(30)) - 30
		wantParsed(t, fill(most-used-1), g)
		wantParsed(t, fill(most-used), g)
		wantFault(t, fill(most-used+1), 0, api.ErrMany)
		wantFault(t, fill(most-used+2), 0, api.ErrMany)
		wantFault(t, fill(3*most), 0, api.ErrMany)
	}
	wantFault(t, strings.Repeat(" ", most), 0, api.ErrNone)
	wantFault(t, strings.Repeat(" ", most+1), 0, api.ErrMany)
	wantFault(t, strings.Repeat("x", most), 1, api.ErrForm)
	// Bytes are counted, and not signs of several bytes.
	wantFault(t, strings.Repeat("\u20ac", most/3+1), 0, api.ErrMany)
	// Faults of lines come after this one.
	wantFault(t, "x\n101\n"+strings.Repeat(" ", most-6), 1, api.ErrForm)
	wantFault(t, "x\n101\n"+strings.Repeat(" ", most-5), 0, api.ErrMany)
}

func TestR2ErrManyLinesAtTheEdge(t *testing.T) {
	const most = api.MaxLines
	g := sample.Graph([]int{1}, nil)
	for _, line := range []string{"\n", "#\n", " \n", "# 0 1\n"} {
		for _, around := range [][2]string{{"2\n0 1\n", ""}, {"2\n", "0 1\n"}, {"", "2\n0 1\n"}, {"2\n", "0 1"}, {"", "2\n0 1"}} {
			whole := func(many int) string { return around[0] + strings.Repeat(line, many-2) + around[1] }
			wantParsed(t, whole(most-1), g)
			wantParsed(t, whole(most), g)
			wantFault(t, whole(most+1), 0, api.ErrMany)
			wantFault(t, whole(3*most), 0, api.ErrMany)
			// What follows the last line feed is one more line.
			if strings.HasSuffix(whole(most), "\n") {
				wantParsed(t, whole(most-1)+"#", g)
				wantFault(t, whole(most)+"#", 0, api.ErrMany)
				wantFault(t, whole(most)+" ", 0, api.ErrMany)
			}
		}
		wantFault(t, strings.Repeat(line, most), 0, api.ErrNone)
		wantFault(t, strings.Repeat(line, most+1), 0, api.ErrMany)
		wantFault(t, strings.Repeat(line, most-1)+"x", most, api.ErrForm)
		wantFault(t, strings.Repeat(line, most)+"x", 0, api.ErrMany)
		wantFault(t, "x\n"+strings.Repeat(line, most), 0, api.ErrMany)
		wantFault(t, "101\n"+strings.Repeat(line, most-1), 1, api.ErrRange)
	}
}
