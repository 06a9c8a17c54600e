package desk_test

import (
	"slices"
	"strings"
	"testing"

	"lampwright/api"
	"lampwright/desk"
	"lampwright/internal/sample"
)

// oddLines are right and wrong lines and texts, also those with the greatest numbers.
func oddLines() []string {
	return append(lines(), "", "\n", "\x00", "\xff\xfe", "what", "nodes", "nodes 100", "arc 99 99", "arc 0 0", "arc 9999 9999", "drop 0 1", "how 7 300 16", "list 99", "far 0 99", "way 99 0", "nodes 3\narc 0 1\nlist 0", "order\nx\n", strings.Repeat("bits\n", 99), strings.Repeat(" ", 1000), strings.Repeat("\n", api.MaxOrders), "nodes "+strings.Repeat("9", 1000), strings.Repeat("bits ", 1000))
}

// oddDesks are right and wrong desks.
func oddDesks() []api.Desk {
	var all []api.Desk
	for i, g := range sample.OddGraphs() {
		hows := sample.OddHows()
		all = append(all, deskOf(g, plain), deskOf(g, hows[i%len(hows)]))
	}
	return append(all, api.Desk{}, deskOf(sample.Long(0), api.How{K: 16}))
}

func TestP1ReturnsForAllArguments(t *testing.T) {
	for _, d := range oddDesks() {
		wrong := desk.Check(d)
		for _, line := range oddLines() {
			after, reply, err := desk.Do(d, line)
			if err == api.OK && (wrong != api.OK || desk.Check(after) != api.OK) || err != api.OK && (!sameDesk(after, api.Desk{}) || reply != "") {
				t.Errorf("Do of %.60q: %v %q beside the error %d", line, after, reply, err)
			}
			after, replies, err := desk.Run(d, line)
			if err == api.OK && (wrong != api.OK || desk.Check(after) != api.OK) || err != api.OK && (!sameDesk(after, api.Desk{}) || replies != "") {
				t.Errorf("Run of %.60q: %v %q beside the error %d", line, after, replies, err)
			}
		}
	}
}

// use calls each function, and flips what it returns. A result that shared memory with an argument would carry the changes into it.
func use(d api.Desk, line string) {
	desk.Check(d)
	done, _, _ := desk.Do(d, line)
	sample.FlipGraph(done.Graph)
	run, _, _ := desk.Run(d, line)
	sample.FlipGraph(run.Graph)
}

func TestP2ArgumentsStayAsTheyAre(t *testing.T) {
	for _, d := range oddDesks() {
		for _, filling := range []int{0, -1} {
			m := sample.AroundGraph(d.Graph, filling)
			for _, line := range oddLines() {
				use(deskOf(m.Graph, d.How), line)
			}
			if m.Changed() {
				t.Errorf("the graph %v is changed", d.Graph)
			}
		}
	}
}

// Also a desk that no line has changed is a new one.
func TestP2ResultsShareNoMemory(t *testing.T) {
	for _, g := range slices.Concat(sample.Graphs(2), sample.GreatGraphs()) {
		d := deskOf(g, plain)
		for _, line := range []string{"", "x", "bits", "order", "threes", "how 1 2 3", "nodes 4", "arc 0 0", "arc 0 1", "drop 0 0", "drop 0 1", "list 0", "part 0"} {
			done, _, _ := desk.Do(d, line)
			run, _, _ := desk.Run(d, line)
			if sample.ShareMemory(slices.Concat(done.Graph.Next, run.Graph.Next, g.Next)...) {
				t.Errorf("the desks with %v share memory after %q", g, line)
			}
		}
	}
}

func TestP2EmptyListsCanBeNilOrNot(t *testing.T) {
	for _, next := range [][][]int{nil, {}} {
		d := deskOf(api.Graph{Next: next}, plain)
		wantCheck(t, d, api.OK)
		wantReply(t, d, "bits", "0")
		wantDone(t, d, "nodes 1", sample.Graph(nil))
		wantRun(t, d, "order", d, "\n", api.OK)
	}
	for _, l := range [][]int{nil, {}} {
		d := deskOf(sample.Graph(l, []int{0}), plain)
		wantCheck(t, d, api.OK)
		wantReply(t, d, "list 0", "")
		wantDone(t, d, "arc 0 1", sample.Graph([]int{1}, []int{0}))
		wantDone(t, d, "drop 1 0", sample.Graph(l, nil))
		wantError(t, d, "drop 0 1", api.ErrNone)
		wantRun(t, d, "list 1\nlist 0", d, "0\n\n", api.OK)
	}
}

func TestP3EachCallIsByItself(t *testing.T) {
	g := sample.Graph([]int{1}, []int{2}, []int{0, 3}, nil)
	d := deskOf(g, mixed)
	for range 3 {
		wantCheck(t, d, api.OK)
		wantDone(t, d, "arc 0 0", with(g, 0, 0, true))
		wantDone(t, d, "drop 0 1", with(g, 0, 1, false))
		wantDo(t, d, "how 0 0 1", deskOf(g, plain), "ok", api.OK)
		wantReply(t, d, "list 0", "1")
		wantReply(t, d, "way 1 3", "1 2 3")
		wantError(t, d, "arc 0 1", api.ErrTwice)
		wantRun(t, d, "drop 2 0\narc 2 0\nlist 2\nx", d, "ok\nok\n0 3\nerror 1\n", api.OK)
		for _, line := range oddLines() {
			use(d, line)
		}
		use(api.Desk{}, "order")
	}
}

func TestP4HoldsForMuch(t *testing.T) {
	const much = 1 << 26
	d := smallDesk()
	for _, sign := range []string{" ", "0", "x", "\xff", "nodes ", "bits ", "0 "} {
		long := strings.Repeat(sign, much/len(sign))
		for _, name := range []string{"", "bits ", "nodes ", "arc 0 ", "how 0 0 "} {
			wantError(t, d, name+long, api.ErrForm)
		}
		wantRun(t, d, "bits\n"+long+"\nbits", d, "7\nerror 1\n7\n", api.OK)
	}
	for _, line := range []string{"\n", "bits\n", " \n"} {
		wantRun(t, d, strings.Repeat(line, much/len(line)), api.Desk{}, "", api.ErrMany)
	}
	for _, c := range []struct {
		g   api.Graph
		err api.Errno
	}{
		{api.Graph{Next: make([][]int, 1<<22)}, api.ErrMany},
		{sample.Graph(sample.Steps(0, 1, 1<<22)), api.ErrRange},
		{sample.Graph(nil, make([]int, 1<<22)), api.ErrState},
	} {
		if err := desk.Check(deskOf(c.g, plain)); err != c.err {
			t.Errorf("Check: %d, must be %d", err, c.err)
		}
		done, reply, err := desk.Do(deskOf(c.g, plain), "bits")
		run, replies, runErr := desk.Run(deskOf(c.g, plain), "bits")
		if len(done.Graph.Next)+len(run.Graph.Next)+len(reply)+len(replies) != 0 || err != c.err || runErr != c.err {
			t.Errorf("the errors are %d %d, must be %d", err, runErr, c.err)
		}
	}
}
