package desk_test

import (
	"fmt"
	"slices"
	"testing"

	"lampwright/api"
	"lampwright/core"
	"lampwright/internal/sample"
	"lampwright/strong"
	"lampwright/walk"
)

// smallGraphs are all graphs with at most 2 nodes, and some with 3 and 4.
func smallGraphs() []api.Graph {
	all := sample.SmallGraphs()
	some := all[:19]
	for i := 19; i < len(all); i += 37 {
		some = append(some, all[i])
	}
	return some
}

// someNodes returns nodes of a graph, and numbers that are not.
func someNodes(g api.Graph) []int {
	n := len(g.Next)
	some := slices.DeleteFunc([]int{0, 1, 2, 3, n / 2, n - 1}, func(node int) bool { return node < 0 })
	return slices.Concat(some, []int{n, n + 1, nodes, 9999})
}

// wantOfNodes fails unless a command with one node has these replies, and the error ErrRange for what is not a node.
func wantOfNodes(t *testing.T, d api.Desk, command string, replies []string) {
	t.Helper()
	for _, node := range someNodes(d.Graph) {
		line := fmt.Sprintf("%s %d", command, node)
		if node < len(replies) {
			wantReply(t, d, line, replies[node])
		} else {
			wantError(t, d, line, api.ErrRange)
		}
	}
}

// spellEach writes each number as a reply.
func spellEach(l []int) []string {
	replies := make([]string, len(l))
	for i, n := range l {
		replies[i] = fmt.Sprint(n)
	}
	return replies
}

func TestX2X3Bits(t *testing.T) {
	for _, g := range slices.Concat(smallGraphs(), sample.GreatGraphs()) {
		for _, h := range []api.How{plain, mixed, {Back: api.MaxBack, Least: 2, K: 3}} {
			text, _, _ := sample.Pack(g, h)
			wantReply(t, deskOf(g, h), "bits", fmt.Sprint(len(text)))
		}
	}
	for zeros := range 12 {
		d := deskOf(sample.Long(zeros), api.How{K: 16})
		if bits := 8201 - zeros; bits <= api.MaxLen {
			wantReply(t, d, "bits", fmt.Sprint(bits))
		} else {
			wantError(t, d, "bits", api.ErrFull)
		}
	}
}

func TestX2X3List(t *testing.T) {
	for _, g := range append(smallGraphs(), sample.GreatGraphs()...) {
		var replies []string
		for _, l := range g.Next {
			replies = append(replies, spell(l))
		}
		wantOfNodes(t, deskOf(g, mixed), "list", replies)
	}
	// A list is not found on a shelf that cannot be built, and this error comes before that of the node.
	h := api.How{K: 16}
	for _, line := range []string{"list 0", "list 99", "list 100", "list 9999"} {
		wantError(t, deskOf(sample.Long(8), h), line, api.ErrFull)
	}
	wantReply(t, deskOf(sample.Long(9), h), "list 99", "0 2 4 6")
	wantError(t, deskOf(sample.Long(9), h), "list 100", api.ErrRange)
}

func TestX2X3FarAndWay(t *testing.T) {
	for _, g := range slices.Concat(smallGraphs(), sample.GreatGraphs(), sample.ScatteredGraphs()) {
		d := deskOf(g, mixed)
		all := sample.AllFar(g)
		for _, from := range someNodes(g) {
			for _, to := range someNodes(g) {
				far, way := fmt.Sprintf("far %d %d", from, to), fmt.Sprintf("way %d %d", from, to)
				switch {
				case max(from, to) >= len(g.Next):
					wantError(t, d, far, api.ErrRange)
					wantError(t, d, way, api.ErrRange)
				case all[from][to] < 0:
					wantReply(t, d, far, "none")
					wantReply(t, d, way, "none")
				default:
					l, _ := walk.Way(g, from, to)
					wantReply(t, d, far, fmt.Sprint(all[from][to]))
					wantReply(t, d, way, spell(l))
				}
			}
		}
	}
}

func TestX2X3PartAndCore(t *testing.T) {
	for _, g := range slices.Concat(smallGraphs(), sample.GreatGraphs(), sample.ScatteredGraphs()) {
		parts, _ := strong.Parts(g)
		wantOfNodes(t, deskOf(g, mixed), "part", spellEach(parts))
		numbers, _ := core.Numbers(g)
		wantOfNodes(t, deskOf(g, mixed), "core", spellEach(numbers))
	}
}

func TestX2OrderAndThrees(t *testing.T) {
	for _, g := range slices.Concat(smallGraphs(), sample.GreatGraphs(), sample.ScatteredGraphs(), sample.OnwardGraphs()) {
		d := deskOf(g, plain)
		if order, err := strong.Order(g); err == api.OK {
			wantReply(t, d, "order", spell(order))
		} else {
			wantReply(t, d, "order", "none")
		}
		_, many, _ := core.Threes(g)
		wantReply(t, d, "threes", fmt.Sprint(many))
	}
}

// Only bits and list need room for the packed graph.
func TestX2WithTooManyBits(t *testing.T) {
	d := deskOf(sample.Long(0), api.How{K: 16})
	way, _ := walk.Way(d.Graph, 40, 7)
	parts, _ := strong.Parts(d.Graph)
	numbers, _ := core.Numbers(d.Graph)
	_, many, _ := core.Threes(d.Graph)
	wantReply(t, d, "far 40 7", fmt.Sprint(len(way)-1))
	wantReply(t, d, "way 40 7", spell(way))
	wantReply(t, d, "part 40", fmt.Sprint(parts[40]))
	wantReply(t, d, "core 40", fmt.Sprint(numbers[40]))
	wantReply(t, d, "order", "none")
	wantReply(t, d, "threes", fmt.Sprint(many))
	wantDone(t, d, "nodes 1", sample.Graph(nil))
	wantDone(t, d, "drop 0 1", with(d.Graph, 0, 1, false))
	wantDo(t, d, "how 0 0 1", deskOf(d.Graph, plain), "ok", api.OK)
}
