package strong_test

import (
	"slices"
	"testing"

	"lampwright/api"
	"lampwright/graph"
	"lampwright/internal/sample"
	"lampwright/strong"
)

const nodes = api.MaxNodes

// rightGraphs are small and great ones, with paths back and without.
func rightGraphs() []api.Graph {
	return slices.Concat(sample.SmallGraphs(), sample.GreatGraphs(), sample.ScatteredGraphs(), sample.OnwardGraphs())
}

func wantParts(t *testing.T, g api.Graph, parts []int, err api.Errno) {
	t.Helper()
	if got, gotErr := strong.Parts(g); !slices.Equal(got, parts) || gotErr != err {
		t.Errorf("Parts of %v: %v %d, must be %v %d", g, got, gotErr, parts, err)
	}
}

func wantOrder(t *testing.T, g api.Graph, order []int, err api.Errno) {
	t.Helper()
	if got, gotErr := strong.Order(g); !slices.Equal(got, order) || gotErr != err {
		t.Errorf("Order of %v: %v %d, must be %v %d", g, got, gotErr, order, err)
	}
}

func wantShrink(t *testing.T, g, shrunk api.Graph, numbers []int, err api.Errno) {
	t.Helper()
	got, gotNumbers, gotErr := strong.Shrink(g)
	if !sample.SameGraph(got, shrunk) || !slices.Equal(gotNumbers, numbers) || gotErr != err {
		t.Errorf("Shrink of %v: %v %v %d, must be %v %v %d", g, got, gotNumbers, gotErr, shrunk, numbers, err)
	}
}

// twoRounds has nodes 0, 3, 5 and nodes 1, 4 with paths to each other, arcs from the first ones to the others and to node 2, and from node 6 to both.
func twoRounds() api.Graph {
	return sample.Graph([]int{3, 4}, []int{4}, nil, []int{1, 5}, []int{1, 2}, []int{0, 2, 4}, []int{1, 5, 6})
}

func TestU1ByHand(t *testing.T) {
	wantParts(t, twoRounds(), []int{0, 1, 2, 0, 1, 0, 6}, api.OK)
	wantParts(t, api.Graph{}, nil, api.OK)
	wantParts(t, sample.Graph(nil), []int{0}, api.OK)
	wantParts(t, sample.Graph([]int{0}), []int{0}, api.OK)
	// There must be paths in both directions, by arcs in their direction.
	wantParts(t, sample.Graph([]int{1}, nil), []int{0, 1}, api.OK)
	wantParts(t, sample.Graph(nil, []int{0}), []int{0, 1}, api.OK)
	wantParts(t, sample.Graph([]int{1}, []int{0}), []int{0, 0}, api.OK)
	wantParts(t, sample.Graph([]int{1}, nil, []int{1}), []int{0, 1, 2}, api.OK)
	wantParts(t, sample.Graph([]int{1, 2}, []int{0}, nil), []int{0, 0, 2}, api.OK)
	wantParts(t, sample.Graph(nil, []int{2}, []int{0, 3}, []int{1}), []int{0, 1, 1, 1}, api.OK)
	// Rounds that have one node in common are one part; those that only have an arc between them are not.
	wantParts(t, sample.Graph([]int{2}, []int{3}, []int{0, 4}, []int{4}, []int{1, 2}), []int{0, 0, 0, 0, 0}, api.OK)
	wantParts(t, sample.Graph([]int{2}, []int{3}, []int{0, 3}, []int{1}), []int{0, 1, 0, 1}, api.OK)
}

// As many nodes, as long paths, and as many arcs as there may be.
func TestU1Edges(t *testing.T) {
	wantParts(t, sample.Circle(nodes, 1), make([]int, nodes), api.OK)
	wantParts(t, sample.Circle(nodes, nodes-1), make([]int, nodes), api.OK)
	wantParts(t, sample.Circle(nodes, 1, 20, 40, 50, 77, 99), make([]int, nodes), api.OK)
	wantParts(t, sample.Circle(nodes, 0), sample.Steps(0, 1, nodes), api.OK)
	wantParts(t, sample.Line(nodes), sample.Steps(0, 1, nodes), api.OK)
	wantParts(t, sample.Full(24, 24), make([]int, 24), api.OK)
	wantParts(t, sample.Full(nodes, 6), append(make([]int, 6), sample.Steps(6, 1, nodes-6)...), api.OK)
	// From each node to the one 50 places on, and back.
	wantParts(t, sample.Circle(nodes, nodes/2), slices.Repeat(sample.Steps(0, 1, nodes/2), 2), api.OK)
	wantParts(t, sample.Circle(nodes, 4), slices.Repeat(sample.Steps(0, 1, 4), nodes/4), api.OK)
}

// partsOf returns for each node the first one to which there is a distance, and from which there is one.
func partsOf(g api.Graph) []int {
	far := sample.AllFar(g)
	parts := make([]int, len(far))
	for node := range parts {
		for far[node][parts[node]] < 0 || far[parts[node]][node] < 0 {
			parts[node]++
		}
	}
	return parts
}

func TestU1Parts(t *testing.T) {
	for _, g := range rightGraphs() {
		wantParts(t, g, partsOf(g), api.OK)
	}
}

func TestU2ByHand(t *testing.T) {
	wantOrder(t, api.Graph{}, nil, api.OK)
	wantOrder(t, sample.Graph(nil), []int{0}, api.OK)
	wantOrder(t, sample.Full(3, 0), []int{0, 1, 2}, api.OK)
	wantOrder(t, sample.Graph([]int{1, 2}, []int{3}, []int{3}, nil), []int{0, 1, 2, 3}, api.OK)
	wantOrder(t, sample.Graph(nil, []int{0}, []int{1}), []int{2, 1, 0}, api.OK)
	wantOrder(t, sample.Graph(nil, nil, []int{1}, []int{0}), []int{2, 1, 3, 0}, api.OK)
	// At each place stands the smallest node that may stand there, which is neither the order by distances nor that of paths.
	wantOrder(t, sample.Graph([]int{3}, []int{2}, nil, nil), []int{0, 1, 2, 3}, api.OK)
	wantOrder(t, sample.Graph([]int{4}, nil, []int{1}, []int{1}, nil), []int{0, 2, 3, 1, 4}, api.OK)
	wantOrder(t, sample.Graph(nil, nil, nil, []int{0}, []int{3}, []int{1}), []int{2, 4, 3, 0, 5, 1}, api.OK)
	// There is no order.
	for _, g := range []api.Graph{
		sample.Graph([]int{0}),
		sample.Graph([]int{0, 1}, nil),
		sample.Graph(nil, nil, []int{0, 1, 2}),
		sample.Graph([]int{1}, []int{0}),
		sample.Graph([]int{1}, []int{2}, []int{0}),
		sample.Graph([]int{1}, []int{2}, []int{3}, []int{2}),
		sample.Graph(nil, []int{2}, []int{1}, nil),
		sample.Circle(nodes, 1),
		sample.Circle(nodes, 50),
		sample.Fan(nodes),
		twoRounds(),
	} {
		wantOrder(t, g, nil, api.ErrState)
	}
}

func TestU2Edges(t *testing.T) {
	all := sample.Steps(0, 1, nodes)
	wantOrder(t, sample.Line(nodes), all, api.OK)
	wantOrder(t, sample.Full(nodes, 0), all, api.OK)
	back := sample.Full(nodes, 0)
	for node := 1; node < nodes; node++ {
		back.Next[node] = sample.Steps(max(0, node-6), 1, min(6, node))
	}
	slices.Reverse(all)
	wantOrder(t, back, all, api.OK)
	// One more arc, that of the first node in the order, leads back to it.
	back.Next[0] = []int{nodes - 1}
	wantOrder(t, back, nil, api.ErrState)
}

// mayStand reports whether no arc leads to a node from one that is not placed.
func mayStand(g api.Graph, node int, order []int) bool {
	for from, l := range g.Next {
		if slices.Contains(l, node) && !slices.Contains(order, from) {
			return false
		}
	}
	return true
}

// orderOf puts at each place the first of all nodes that may stand there; nil if there is none.
func orderOf(g api.Graph) []int {
	order := []int{}
	for range g.Next {
		node := 0
		for node < len(g.Next) && (slices.Contains(order, node) || !mayStand(g, node, order)) {
			node++
		}
		if node == len(g.Next) {
			return nil
		}
		order = append(order, node)
	}
	return order
}

// firstOrder returns the lexicographically first of all orders that begin so, of those in which no node comes after one to which an arc leads from it.
func firstOrder(g api.Graph, begin []int) []int {
	for _, to := range begin {
		for _, from := range begin[slices.Index(begin, to):] {
			if slices.Contains(g.Next[from], to) {
				return nil
			}
		}
	}
	if len(begin) == len(g.Next) {
		return begin
	}
	for node := range g.Next {
		if !slices.Contains(begin, node) {
			if order := firstOrder(g, append(slices.Clone(begin), node)); order != nil {
				return order
			}
		}
	}
	return nil
}

func wantThisOrder(t *testing.T, g api.Graph, order []int) {
	t.Helper()
	if order == nil {
		wantOrder(t, g, nil, api.ErrState)
		return
	}
	wantOrder(t, g, order, api.OK)
}

func TestU2Order(t *testing.T) {
	for _, g := range rightGraphs() {
		wantThisOrder(t, g, orderOf(g))
	}
}

// Of all orders, it is the lexicographically first one.
func TestU2OrderOfSmallGraphs(t *testing.T) {
	for _, g := range sample.SmallGraphs() {
		wantThisOrder(t, g, firstOrder(g, []int{}))
	}
	for seed := range 60 {
		g := sample.Onward(sample.Scattered(6, 14, seed), 7+seed)
		wantThisOrder(t, g, firstOrder(g, []int{}))
	}
}

// There is an order if and only if each part has one node, and no arc leads from a node to itself.
func TestU2OrderAndParts(t *testing.T) {
	orders := 0
	for _, g := range rightGraphs() {
		parts, _ := strong.Parts(g)
		back := !slices.Equal(parts, sample.Steps(0, 1, len(parts)))
		for node, l := range g.Next {
			back = back || slices.Contains(l, node)
		}
		order, err := strong.Order(g)
		if back != (err == api.ErrState) || back != (len(order) < len(parts)) {
			t.Errorf("the order %v %d of %v does not agree with the parts %v", order, err, g, parts)
		}
		if !back {
			orders++
		}
	}
	if orders < 300 {
		t.Errorf("only %d graphs have an order", orders)
	}
}

func TestU3ByHand(t *testing.T) {
	wantShrink(t, twoRounds(), sample.Graph([]int{1, 2}, []int{2}, nil, []int{0, 1}), []int{0, 1, 2, 0, 1, 0, 3}, api.OK)
	wantShrink(t, api.Graph{}, api.Graph{}, nil, api.OK)
	wantShrink(t, sample.Graph(nil), sample.Graph(nil), []int{0}, api.OK)
	wantShrink(t, sample.Graph([]int{0}), sample.Graph(nil), []int{0}, api.OK)
	wantShrink(t, sample.Graph([]int{0, 1}, []int{1}), sample.Graph([]int{1}, nil), []int{0, 1}, api.OK)
	wantShrink(t, sample.Graph([]int{1}, []int{0}), sample.Graph(nil), []int{0, 0}, api.OK)
	// The parts are in the order of their smallest nodes, not of paths; arcs from one part to another one are one arc.
	wantShrink(t, sample.Graph(nil, []int{0, 2}, []int{0, 1}), sample.Graph(nil, []int{0}), []int{0, 1, 1}, api.OK)
	wantShrink(t, sample.Graph([]int{3}, []int{2}, []int{0, 1, 3}, []int{0}), sample.Graph(nil, []int{0}), []int{0, 1, 1, 0}, api.OK)
	// The lists are increasing, also where those of the nodes have the parts in another order.
	wantShrink(t, sample.Graph([]int{2, 3}, []int{4}, []int{0}, nil, []int{1}, []int{1, 2, 3}), sample.Graph([]int{2}, nil, nil, []int{0, 1, 2}), []int{0, 1, 0, 2, 1, 3}, api.OK)
	wantShrink(t, sample.Graph([]int{5}, []int{0}, []int{4}, []int{2, 5}, []int{2}, []int{0, 2, 4}), sample.Graph([]int{2}, []int{0}, nil, []int{0, 2}), []int{0, 1, 2, 3, 2, 0}, api.OK)
}

func TestU3Edges(t *testing.T) {
	one := sample.Graph(nil)
	wantShrink(t, sample.Circle(nodes, 1), one, make([]int, nodes), api.OK)
	wantShrink(t, sample.Circle(nodes, 0, 1, 2, 3, 4, 5), one, make([]int, nodes), api.OK)
	wantShrink(t, sample.Full(24, 24), one, make([]int, 24), api.OK)
	// As many nodes and arcs as there may be, none of which leads back.
	on := sample.Full(nodes, 0)
	for i := range api.MaxArcs {
		from := i % 90
		on.Next[from] = append(on.Next[from], from+1+i/90)
	}
	wantShrink(t, on, on, sample.Steps(0, 1, nodes), api.OK)
	// Each of 6 nodes that are one part has arcs to all nodes.
	star := sample.Full(nodes-5, 0)
	star.Next[0] = sample.Steps(1, 1, nodes-6)
	wantShrink(t, sample.Full(nodes, 6), star, append(make([]int, 6), sample.Steps(1, 1, nodes-6)...), api.OK)
	wantShrink(t, sample.Circle(nodes, 4), sample.Full(4, 0), slices.Repeat(sample.Steps(0, 1, 4), nodes/4), api.OK)
}

// shrunkOf looks for an arc between each two parts, and for the place of each part among the smallest nodes.
func shrunkOf(g api.Graph) (api.Graph, []int) {
	parts := partsOf(g)
	least := slices.Compact(slices.Sorted(slices.Values(parts)))
	numbers := make([]int, len(parts))
	for node, part := range parts {
		numbers[node] = slices.Index(least, part)
	}
	shrunk := sample.Full(len(least), 0)
	for from := range least {
		for to := range least {
			if from != to && leads(g, numbers, from, to) {
				shrunk.Next[from] = append(shrunk.Next[from], to)
			}
		}
	}
	return shrunk, numbers
}

// leads reports whether an arc leads from a node of one part to a node of another one.
func leads(g api.Graph, numbers []int, from, to int) bool {
	for node, l := range g.Next {
		if numbers[node] == from && slices.ContainsFunc(l, func(other int) bool { return numbers[other] == to }) {
			return true
		}
	}
	return false
}

func TestU3Shrink(t *testing.T) {
	for _, g := range rightGraphs() {
		shrunk, numbers := shrunkOf(g)
		wantShrink(t, g, shrunk, numbers, api.OK)
	}
}

// What Shrink returns is a graph with an order, and is its own one when it is shrunk again.
func TestU3ShrunkTwice(t *testing.T) {
	for _, g := range rightGraphs() {
		shrunk, _, _ := strong.Shrink(g)
		if err := graph.Check(shrunk); err != api.OK {
			t.Errorf("what is shrunk from %v has the error %d", g, err)
		}
		if _, err := strong.Order(shrunk); err != api.OK {
			t.Errorf("what is shrunk from %v has no order: %d", g, err)
		}
		wantShrink(t, shrunk, shrunk, sample.Steps(0, 1, len(shrunk.Next)), api.OK)
	}
}

func TestU1ToU3Errors(t *testing.T) {
	for _, w := range sample.WrongGraphs() {
		wantParts(t, w.Graph, nil, w.Err)
		wantOrder(t, w.Graph, nil, w.Err)
		wantShrink(t, w.Graph, api.Graph{}, nil, w.Err)
	}
}

// The error of the graph comes before the one that there is no order.
func TestU2ErrorsInOrder(t *testing.T) {
	wantOrder(t, sample.Graph([]int{0, 1}), nil, api.ErrRange)
	wantOrder(t, sample.Graph([]int{1}, []int{0, 2}), nil, api.ErrRange)
	wantOrder(t, sample.Graph([]int{1}, []int{0, 0}), nil, api.ErrState)
	wantOrder(t, sample.Full(25, 25), nil, api.ErrMany)
	wantOrder(t, sample.Circle(nodes+1, 1), nil, api.ErrMany)
}
