package graph_test

import (
	"math"
	"slices"
	"testing"

	"lampwright/api"
	"lampwright/graph"
	"lampwright/internal/sample"
)

const nodes, most = api.MaxNodes, api.MaxArcs

// rightGraphs are all graphs with at most 3 nodes, and many others.
func rightGraphs() []api.Graph {
	all := slices.Concat(sample.MixedGraphs(), sample.EdgeGraphs())
	for n := range 4 {
		all = append(all, sample.Graphs(n)...)
	}
	return all
}

// matrix says which arcs a graph has: those for which has returns true.
func matrix(n int, has func(from, to int) bool) []api.Arc {
	var all []api.Arc
	for from := range n {
		for to := range n {
			if has(from, to) {
				all = append(all, api.Arc{From: from, To: to})
			}
		}
	}
	return all
}

// arcsOf looks for each arc that there can be in the lists of a graph.
func arcsOf(g api.Graph) []api.Arc {
	return matrix(len(g.Next), func(from, to int) bool { return slices.Contains(g.Next[from], to) })
}

// graphOf returns the graph with these arcs.
func graphOf(n int, arcs []api.Arc) api.Graph {
	g := api.Graph{Next: make([][]int, n)}
	for _, arc := range matrix(n, func(from, to int) bool { return slices.Contains(arcs, api.Arc{From: from, To: to}) }) {
		g.Next[arc.From] = append(g.Next[arc.From], arc.To)
	}
	return g
}

func wantCheck(t *testing.T, g api.Graph, err api.Errno) {
	t.Helper()
	if got := graph.Check(g); got != err {
		t.Errorf("Check of %v: %d, must be %d", g, got, err)
	}
}

func wantArcs(t *testing.T, g api.Graph, arcs []api.Arc, err api.Errno) {
	t.Helper()
	if got, gotErr := graph.Arcs(g); !slices.Equal(got, arcs) || gotErr != err {
		t.Errorf("Arcs of %v: %v %d, must be %v %d", g, got, gotErr, arcs, err)
	}
}

// wantGraph fails unless the results of a call are these.
func wantGraph(t *testing.T, call string, got api.Graph, gotErr api.Errno, want api.Graph, err api.Errno) {
	t.Helper()
	if !sample.SameGraph(got, want) || gotErr != err {
		t.Errorf("%s: %v %d, must be %v %d", call, got, gotErr, want, err)
	}
}

func wantOf(t *testing.T, n int, l []api.Arc, want api.Graph, err api.Errno) {
	t.Helper()
	got, gotErr := graph.Of(n, l)
	wantGraph(t, "Of", got, gotErr, want, err)
}

func wantTurn(t *testing.T, g, want api.Graph, err api.Errno) {
	t.Helper()
	got, gotErr := graph.Turn(g)
	wantGraph(t, "Turn", got, gotErr, want, err)
}

func wantBoth(t *testing.T, g, want api.Graph, err api.Errno) {
	t.Helper()
	got, gotErr := graph.Both(g)
	wantGraph(t, "Both", got, gotErr, want, err)
}

func wantDegrees(t *testing.T, g api.Graph, from, to []int, err api.Errno) {
	t.Helper()
	gotFrom, gotTo, gotErr := graph.Degrees(g)
	if !slices.Equal(gotFrom, from) || !slices.Equal(gotTo, to) || gotErr != err {
		t.Errorf("Degrees of %v: %v %v %d, must be %v %v %d", g, gotFrom, gotTo, gotErr, from, to, err)
	}
}

// errorOf returns the error of M1 of a graph with few nodes and arcs: the first one of all errors of all elements.
func errorOf(g api.Graph) api.Errno {
	var all []api.Errno
	for _, l := range g.Next {
		for i, n := range l {
			if n < 0 || n >= len(g.Next) {
				all = append(all, api.ErrRange)
			}
			if i > 0 && n <= l[i-1] {
				all = append(all, api.ErrState)
			}
		}
	}
	return append(all, api.OK)[0]
}

func TestM1CheckOfRightGraphs(t *testing.T) {
	for _, g := range rightGraphs() {
		wantCheck(t, g, api.OK)
	}
}

func TestM1CheckOfWrongGraphs(t *testing.T) {
	for _, w := range sample.WrongGraphs() {
		wantCheck(t, w.Graph, w.Err)
	}
}

func TestM1CheckOfAllShortLists(t *testing.T) {
	var lists [][]int
	for many := range 4 {
		for _, l := range sample.Lists(many, 3) {
			for i := range l {
				l[i]--
			}
			lists = append(lists, l)
		}
	}
	for _, a := range lists {
		g := sample.Graph(a)
		wantCheck(t, g, errorOf(g))
		for _, b := range lists {
			g := sample.Graph(a, b)
			wantCheck(t, g, errorOf(g))
		}
	}
}

// Each number of nodes is allowed up to MaxNodes, and each number of arcs up to MaxArcs.
func TestM1CheckAtTheEdges(t *testing.T) {
	for n := range nodes + 3 {
		err := api.OK
		if n > nodes {
			err = api.ErrMany
		}
		wantCheck(t, sample.Full(n, 0), err)
		wantCheck(t, sample.Circle(n, 0, 1), map[bool]api.Errno{false: err, true: api.ErrState}[n == 1])
	}
	for many := most - 3; many < most+3; many++ {
		g := sample.Full(nodes, many/nodes)
		g.Next[nodes-1] = sample.Steps(0, 1, many%nodes)
		err := api.OK
		if many > most {
			err = api.ErrMany
		}
		wantCheck(t, g, err)
	}
}

func TestM2ArcsByHand(t *testing.T) {
	arc := func(from, to int) api.Arc { return api.Arc{From: from, To: to} }
	wantArcs(t, api.Graph{}, nil, api.OK)
	wantArcs(t, sample.Graph([]int{0}), []api.Arc{arc(0, 0)}, api.OK)
	wantArcs(t, sample.Graph([]int{1, 2}, nil, []int{0, 2}), []api.Arc{arc(0, 1), arc(0, 2), arc(2, 0), arc(2, 2)}, api.OK)
}

func TestM2Arcs(t *testing.T) {
	for _, g := range rightGraphs() {
		wantArcs(t, g, arcsOf(g), api.OK)
	}
	for _, w := range sample.WrongGraphs() {
		wantArcs(t, w.Graph, nil, w.Err)
	}
}

// orders returns the list in a few orders.
func orders(l []api.Arc) [][]api.Arc {
	back, apart := slices.Clone(l), []api.Arc(nil)
	slices.Reverse(back)
	for i := range 7 {
		for j := i; j < len(l); j += 7 {
			apart = append(apart, back[j])
		}
	}
	return [][]api.Arc{l, back, apart, slices.Concat(l[len(l)/2:], l[:len(l)/2])}
}

func TestM2Of(t *testing.T) {
	for _, g := range rightGraphs() {
		for _, l := range orders(arcsOf(g)) {
			wantOf(t, len(g.Next), l, g, api.OK)
		}
	}
}

// errorOfArcs returns the error of M2 of few arcs: the first one of all errors of all arcs.
func errorOfArcs(n int, l []api.Arc) api.Errno {
	var all []api.Errno
	for i, arc := range l {
		if min(arc.From, arc.To) < 0 || max(arc.From, arc.To) >= n {
			all = append(all, api.ErrRange)
		}
		if slices.Contains(l[:i], arc) {
			all = append(all, api.ErrTwice)
		}
	}
	return append(all, api.OK)[0]
}

func TestM2OfAllShortLists(t *testing.T) {
	numbers := sample.Steps(-1, 1, 4)
	var arcs []api.Arc
	for _, from := range numbers {
		for _, to := range numbers {
			arcs = append(arcs, api.Arc{From: from, To: to})
		}
	}
	for n := range 4 {
		for many := range 4 {
			for _, places := range sample.Lists(many, len(arcs)-1) {
				var l []api.Arc
				for _, place := range places {
					l = append(l, arcs[place])
				}
				err, want := errorOfArcs(n, l), api.Graph{}
				if err == api.OK {
					want = graphOf(n, l)
				}
				wantOf(t, n, l, want, err)
			}
		}
	}
}

func TestM2OfErrorsInOrder(t *testing.T) {
	full := arcsOf(sample.Full(nodes, 6))
	tooMany := append(slices.Clone(full), api.Arc{From: 50})
	outside := append(slices.Clone(full), api.Arc{From: -1})
	for _, n := range []int{math.MinInt, -1, nodes + 1, math.MaxInt} {
		for _, l := range [][]api.Arc{nil, {{}}, {{}, {}}, {{From: -1}}, full, tooMany, outside} {
			wantOf(t, n, l, api.Graph{}, api.ErrRange)
		}
	}
	for _, n := range []int{0, 1, nodes} {
		for _, l := range [][]api.Arc{tooMany, outside, make([]api.Arc, most+1), slices.Repeat([]api.Arc{{From: -1}}, most+1)} {
			wantOf(t, n, l, api.Graph{}, api.ErrMany)
		}
		wantOf(t, n, nil, sample.Full(n, 0), api.OK)
	}
	wantOf(t, nodes, full, sample.Full(nodes, 6), api.OK)
	wantOf(t, nodes, make([]api.Arc, most), api.Graph{}, api.ErrTwice)
	wantOf(t, 0, make([]api.Arc, most), api.Graph{}, api.ErrRange)
	// The first arc with an error determines it.
	for _, at := range []int{1, 2, most / 2, most - 2} {
		for _, bad := range []int{math.MinInt, -1, nodes, math.MaxInt} {
			for _, wrong := range []api.Arc{{From: bad}, {To: bad}, {From: bad, To: bad}} {
				l := slices.Clone(full)
				l[at] = wrong
				wantOf(t, nodes, l, api.Graph{}, api.ErrRange)
				l[most-1] = l[0]
				wantOf(t, nodes, l, api.Graph{}, api.ErrRange)
				l[most-1], l[at] = wrong, l[0]
				wantOf(t, nodes, l, api.Graph{}, api.ErrTwice)
			}
		}
	}
}

func TestM3TurnBothAndDegreesByHand(t *testing.T) {
	g := sample.Graph([]int{1, 2}, []int{0, 1}, nil)
	wantTurn(t, g, sample.Graph([]int{1}, []int{0, 1}, []int{0}), api.OK)
	wantBoth(t, g, sample.Graph([]int{1, 2}, []int{0, 1}, []int{0}), api.OK)
	wantDegrees(t, g, []int{2, 2, 0}, []int{1, 2, 1}, api.OK)
}

func TestM3Turn(t *testing.T) {
	for _, g := range rightGraphs() {
		turned := graphOf(len(g.Next), matrix(len(g.Next), func(from, to int) bool { return slices.Contains(g.Next[to], from) }))
		wantTurn(t, g, turned, api.OK)
		wantTurn(t, turned, g, api.OK)
	}
	for _, w := range sample.WrongGraphs() {
		wantTurn(t, w.Graph, api.Graph{}, w.Err)
	}
}

func TestM3Both(t *testing.T) {
	for _, g := range rightGraphs() {
		arcs := matrix(len(g.Next), func(from, to int) bool {
			return slices.Contains(g.Next[to], from) || slices.Contains(g.Next[from], to)
		})
		want, err := graphOf(len(g.Next), arcs), api.OK
		if len(arcs) > most {
			want, err = api.Graph{}, api.ErrMany
		}
		wantBoth(t, g, want, err)
	}
	for _, w := range sample.WrongGraphs() {
		wantBoth(t, w.Graph, api.Graph{}, w.Err)
	}
}

// upwards returns a graph with 25 nodes that has the 300 arcs from each node to each greater one, and as many arcs from a node to itself as loops says.
func upwards(loops int) api.Graph {
	return graphOf(25, matrix(25, func(from, to int) bool { return from < to || from == to && from < loops }))
}

func TestM3BothAtTheEdge(t *testing.T) {
	wantBoth(t, upwards(0), sample.Circle(25, sample.Steps(1, 1, 24)...), api.OK)
	wantBoth(t, upwards(1), api.Graph{}, api.ErrMany)
	fewer := upwards(1)
	fewer.Next[24], fewer.Next[23] = nil, nil
	want := graphOf(25, matrix(25, func(from, to int) bool {
		return (from != to || from == 0) && min(from, to) < 23
	}))
	wantBoth(t, fewer, want, api.OK)
	// Arcs that have their reverse already are not more.
	symmetric := sample.Circle(25, sample.Steps(1, 1, 24)...)
	wantBoth(t, symmetric, symmetric, api.OK)
	wantBoth(t, sample.Full(24, 24), sample.Full(24, 24), api.OK)
	wantBoth(t, sample.Full(nodes, 6), api.Graph{}, api.ErrMany)
	// 3 nodes with arcs to all 97 others, the reverse arcs, and 18 or 19 arcs from a node to itself.
	star := sample.Full(nodes, 3)
	for node := range 3 {
		star.Next[node] = star.Next[node][3:]
	}
	both := graphOf(nodes, matrix(nodes, func(from, to int) bool { return (from < 3) != (to < 3) }))
	wantBoth(t, star, both, api.OK)
	for node := 3; node < 21; node++ {
		star.Next[node] = []int{node}
		both.Next[node] = append(both.Next[node], node)
	}
	wantBoth(t, star, both, api.OK)
	star.Next[21] = []int{21}
	wantBoth(t, star, api.Graph{}, api.ErrMany)
}

func TestM3Degrees(t *testing.T) {
	for _, g := range rightGraphs() {
		from, to := make([]int, len(g.Next)), make([]int, len(g.Next))
		for node := range g.Next {
			for _, arc := range arcsOf(g) {
				if arc.From == node {
					from[node]++
				}
				if arc.To == node {
					to[node]++
				}
			}
		}
		wantDegrees(t, g, from, to, api.OK)
	}
	for _, w := range sample.WrongGraphs() {
		wantDegrees(t, w.Graph, nil, nil, w.Err)
	}
}
