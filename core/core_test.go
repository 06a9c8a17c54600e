package core_test

import (
	"slices"
	"testing"

	"lampwright/api"
	"lampwright/core"
	"lampwright/graph"
	"lampwright/internal/sample"
)

const nodes = api.MaxNodes

// rightGraphs are small and great ones, with arcs in one direction or both.
func rightGraphs() []api.Graph {
	return slices.Concat(sample.SmallGraphs(), sample.GreatGraphs(), sample.ScatteredGraphs(), sample.OnwardGraphs(), []api.Graph{allPairs(35, true), allPairs(35, false), manyPairs()})
}

// allPairs has one arc between each two nodes, from the lesser one to the greater one or back.
func allPairs(n int, on bool) api.Graph {
	g := sample.Full(n, 0)
	for node := range n {
		g.Next[node] = sample.Steps(0, 1, node)
		if on {
			g.Next[node] = sample.Steps(node+1, 1, n-1-node)
		}
	}
	return g
}

// manyPairs has as many arcs as there may be, no two between the same nodes, so that with their reverse ones they would be more.
func manyPairs() api.Graph { return sample.Circle(nodes, 1, 2, 3, 4, 5, 6) }

// areNeighbours looks for each pair of nodes at both lists.
func areNeighbours(g api.Graph, a, b int) bool {
	return a != b && (slices.Contains(g.Next[a], b) || slices.Contains(g.Next[b], a))
}

func wantNumbers(t *testing.T, g api.Graph, numbers []int, err api.Errno) {
	t.Helper()
	if got, gotErr := core.Numbers(g); !slices.Equal(got, numbers) || gotErr != err {
		t.Errorf("Numbers of %v: %v %d, must be %v %d", g, got, gotErr, numbers, err)
	}
}

func wantThrees(t *testing.T, g api.Graph, threes []int, many int, err api.Errno) {
	t.Helper()
	if got, gotMany, gotErr := core.Threes(g); !slices.Equal(got, threes) || gotMany != many || gotErr != err {
		t.Errorf("Threes of %v: %v %d %d, must be %v %d %d", g, got, gotMany, gotErr, threes, many, err)
	}
}

func wantPairs(t *testing.T, g api.Graph, pairs []int, err api.Errno) {
	t.Helper()
	if got, gotErr := core.Pairs(g); !slices.Equal(got, pairs) || gotErr != err {
		t.Errorf("Pairs of %v: %v %d, must be %v %d", g, got, gotErr, pairs, err)
	}
}

// same returns a list of many elements that are the same.
func same(element, many int) []int { return slices.Repeat([]int{element}, many) }

// kite has four nodes of which each two are neighbours, and a tail of two more; node 6 has only itself.
func kite() api.Graph {
	return sample.Graph([]int{1, 2, 5}, []int{0, 2, 5}, []int{5}, []int{4}, []int{0}, nil, []int{6})
}

func TestV1ByHand(t *testing.T) {
	wantNumbers(t, kite(), []int{3, 3, 3, 1, 1, 3, 0}, api.OK)
	wantNumbers(t, api.Graph{}, nil, api.OK)
	wantNumbers(t, sample.Graph(nil), []int{0}, api.OK)
	// A node is not its own neighbour.
	wantNumbers(t, sample.Graph([]int{0}), []int{0}, api.OK)
	wantNumbers(t, sample.Graph([]int{0, 1}, []int{1}), []int{1, 1}, api.OK)
	// Arcs in either direction, or in both, make two nodes neighbours, once.
	wantNumbers(t, sample.Graph([]int{1}, nil), []int{1, 1}, api.OK)
	wantNumbers(t, sample.Graph(nil, []int{0}), []int{1, 1}, api.OK)
	wantNumbers(t, sample.Graph([]int{1}, []int{0}), []int{1, 1}, api.OK)
	wantNumbers(t, sample.Graph([]int{1}, []int{2}, []int{0}), []int{2, 2, 2}, api.OK)
	wantNumbers(t, sample.Graph([]int{1, 2}, nil, nil), []int{1, 1, 1}, api.OK)
	// Many neighbours that have few do not make a node dense.
	wantNumbers(t, sample.Fan(nodes), same(1, nodes), api.OK)
	wantNumbers(t, sample.Line(nodes), same(1, nodes), api.OK)
	wantNumbers(t, sample.Circle(nodes, 1), same(2, nodes), api.OK)
	wantNumbers(t, sample.Grid(8), same(2, 64), api.OK)
	// Two sets of four are dense, and nodes 0 and 8 between them are not.
	apart := sample.Graph([]int{1, 5}, []int{2, 3, 4}, []int{3, 4}, []int{4}, nil, []int{6, 7, 9}, []int{7, 9}, []int{9}, []int{4, 9}, nil)
	wantNumbers(t, apart, []int{2, 3, 3, 3, 3, 3, 3, 3, 2, 3}, api.OK)
}

func TestV1Edges(t *testing.T) {
	for _, on := range []bool{true, false} {
		wantNumbers(t, allPairs(35, on), same(34, 35), api.OK)
	}
	wantNumbers(t, sample.Full(24, 24), same(23, 24), api.OK)
	wantNumbers(t, manyPairs(), same(12, nodes), api.OK)
	wantNumbers(t, sample.Full(nodes, 6), same(6, nodes), api.OK)
	wantNumbers(t, sample.Full(nodes, 0), same(0, nodes), api.OK)
	wantNumbers(t, sample.Circle(nodes-1, 0), same(0, nodes-1), api.OK)
}

// greatestSets returns for each node the greatest k of all sets of nodes that have it.
func greatestSets(g api.Graph) []int {
	numbers := make([]int, len(g.Next))
	for _, set := range sample.Rising(len(g.Next)) {
		k := len(set)
		for _, node := range set {
			k = min(k, neighboursIn(g, node, set))
		}
		for _, node := range set {
			numbers[node] = max(numbers[node], k)
		}
	}
	return numbers
}

// neighboursIn returns how many of a set are neighbours of a node.
func neighboursIn(g api.Graph, node int, set []int) int {
	many := 0
	for _, other := range set {
		if areNeighbours(g, node, other) {
			many++
		}
	}
	return many
}

// numbersOf finds the greatest set for each k: what is left when no node has fewer neighbours.
func numbersOf(g api.Graph) []int {
	numbers := make([]int, len(g.Next))
	set := sample.Steps(0, 1, len(numbers))
	for k := 1; len(set) > 0; k++ {
		for range numbers {
			kept := slices.Clone(set)
			set = slices.DeleteFunc(set, func(node int) bool { return neighboursIn(g, node, kept) < k })
		}
		for _, node := range set {
			numbers[node] = k
		}
	}
	return numbers
}

func TestV1NumbersOfSmallGraphs(t *testing.T) {
	all := sample.SmallGraphs()
	for seed := range 40 {
		all = append(all, sample.Scattered(9, 8+seed, seed))
	}
	for _, g := range all {
		wantNumbers(t, g, greatestSets(g), api.OK)
	}
}

func TestV1Numbers(t *testing.T) {
	for _, g := range rightGraphs() {
		wantNumbers(t, g, numbersOf(g), api.OK)
	}
}

func TestV2ByHand(t *testing.T) {
	wantThrees(t, kite(), []int{3, 3, 3, 0, 0, 3, 0}, 4, api.OK)
	wantThrees(t, api.Graph{}, nil, 0, api.OK)
	wantThrees(t, sample.Graph([]int{0}), []int{0}, 0, api.OK)
	wantThrees(t, sample.Graph([]int{0, 1}, []int{0, 1}), []int{0, 0}, 0, api.OK)
	// A triangle is one, whatever the directions of its arcs.
	wantThrees(t, sample.Graph([]int{1}, []int{2}, []int{0}), []int{1, 1, 1}, 1, api.OK)
	wantThrees(t, sample.Graph([]int{1, 2}, []int{2}, nil), []int{1, 1, 1}, 1, api.OK)
	wantThrees(t, sample.Graph(nil, []int{0}, []int{0, 1}), []int{1, 1, 1}, 1, api.OK)
	wantThrees(t, sample.Full(3, 3), []int{1, 1, 1}, 1, api.OK)
	wantThrees(t, sample.Graph([]int{0, 1, 2}, []int{1}, []int{2}), []int{0, 0, 0}, 0, api.OK)
	wantThrees(t, sample.Circle(4, 1), same(0, 4), 0, api.OK)
	// Two triangles have two nodes in common.
	wantThrees(t, sample.Graph([]int{1, 2}, []int{3}, []int{1}, []int{2}), []int{1, 2, 2, 1}, 2, api.OK)
}

func TestV2Edges(t *testing.T) {
	for _, on := range []bool{true, false} {
		wantThrees(t, allPairs(35, on), same(34*33/2, 35), 35*34*33/6, api.OK)
	}
	wantThrees(t, sample.Full(24, 24), same(23*22/2, 24), 24*23*22/6, api.OK)
	wantThrees(t, sample.Full(nodes, 6), append(same(10+5*94, 6), same(15, 94)...), 20+15*94, api.OK)
	wantThrees(t, sample.Circle(nodes, 1), same(0, nodes), 0, api.OK)
	wantThrees(t, sample.Circle(nodes, 1, 2), same(3, nodes), nodes, api.OK)
	wantThrees(t, sample.Circle(nodes, 0, 1, 2), same(3, nodes), nodes, api.OK)
	wantThrees(t, sample.Full(nodes, 0), same(0, nodes), 0, api.OK)
}

// threesOf looks at each three nodes.
func threesOf(g api.Graph) ([]int, int) {
	threes := make([]int, len(g.Next))
	many := 0
	for c := range threes {
		for b := range c {
			for a := range b {
				if areNeighbours(g, a, b) && areNeighbours(g, b, c) && areNeighbours(g, a, c) {
					threes[a]++
					threes[b]++
					threes[c]++
					many++
				}
			}
		}
	}
	return threes, many
}

func TestV2Threes(t *testing.T) {
	for _, g := range rightGraphs() {
		threes, many := threesOf(g)
		wantThrees(t, g, threes, many, api.OK)
	}
}

func TestV3ByHand(t *testing.T) {
	wantPairs(t, kite(), []int{1, 0, 5, 4, 3, 2, -1}, api.OK)
	wantPairs(t, api.Graph{}, nil, api.OK)
	wantPairs(t, sample.Graph(nil), []int{-1}, api.OK)
	wantPairs(t, sample.Graph([]int{0}), []int{-1}, api.OK)
	wantPairs(t, sample.Graph([]int{0, 1}, []int{1}), []int{1, 0}, api.OK)
	wantPairs(t, sample.Graph([]int{0}, []int{1}), []int{-1, -1}, api.OK)
	wantPairs(t, sample.Graph(nil, []int{0}), []int{1, 0}, api.OK)
	wantPairs(t, sample.Graph([]int{1}, []int{0}), []int{1, 0}, api.OK)
	// The order is that of the lesser node, and not of the one from which the arc leads.
	wantPairs(t, sample.Graph(nil, []int{2}, []int{0}), []int{2, -1, 0}, api.OK)
	wantPairs(t, sample.Graph(nil, []int{2}, []int{3}, []int{0}), []int{3, 2, 1, 0}, api.OK)
	// Of the pairs with the same lesser node, that with the lesser other one comes first.
	wantPairs(t, sample.Graph([]int{3}, []int{0}, []int{0}, nil), []int{1, 0, -1, -1}, api.OK)
	wantPairs(t, sample.Graph([]int{3}, nil, []int{0, 1}, []int{1}), []int{2, 3, 0, 1}, api.OK)
	// A node that has only neighbours that are paired stays alone, also if other pairs would be more.
	wantPairs(t, sample.Graph([]int{1, 2}, []int{3}, nil, nil), []int{1, 0, -1, -1}, api.OK)
	wantPairs(t, sample.Fan(5), []int{4, -1, -1, -1, 0}, api.OK)
}

func TestV3Edges(t *testing.T) {
	var next []int
	for node := range nodes {
		next = append(next, node^1)
	}
	wantPairs(t, sample.Line(nodes), next, api.OK)
	wantPairs(t, sample.Circle(nodes, nodes-1), next, api.OK)
	wantPairs(t, manyPairs(), next, api.OK)
	wantPairs(t, sample.Line(nodes-1), append(slices.Clone(next[:nodes-2]), -1), api.OK)
	wantPairs(t, sample.Circle(nodes, nodes/2), slices.Concat(sample.Steps(nodes/2, 1, nodes/2), sample.Steps(0, 1, nodes/2)), api.OK)
	wantPairs(t, sample.Full(nodes, 6), append(slices.Clone(next[:6]), same(-1, nodes-6)...), api.OK)
	wantPairs(t, sample.Full(nodes, 0), same(-1, nodes), api.OK)
	wantPairs(t, sample.Full(nodes, 1), slices.Concat([]int{1, 0}, same(-1, nodes-2)), api.OK)
	for _, on := range []bool{true, false} {
		wantPairs(t, allPairs(35, on), append(slices.Clone(next[:34]), -1), api.OK)
	}
}

// pairsOf pairs each node, in order, that is not paired yet, with its first greater neighbour that is not.
func pairsOf(g api.Graph) []int {
	pairs := same(-1, len(g.Next))
	for a := range pairs {
		for b := a + 1; b < len(pairs); b++ {
			if areNeighbours(g, a, b) && pairs[a] < 0 && pairs[b] < 0 {
				pairs[a], pairs[b] = b, a
			}
		}
	}
	return pairs
}

func TestV3Pairs(t *testing.T) {
	for _, g := range rightGraphs() {
		wantPairs(t, g, pairsOf(g), api.OK)
	}
}

// The results depend on neighbours alone: they are the same with all arcs reversed, and with arcs from nodes to themselves or without.
func TestV1ToV3DirectionsDoNotMatter(t *testing.T) {
	for _, g := range rightGraphs() {
		turned, _ := graph.Turn(g)
		alone := sample.Full(len(g.Next), 0)
		for node, l := range g.Next {
			alone.Next[node] = slices.DeleteFunc(slices.Clone(l), func(to int) bool { return to == node })
		}
		numbers, _ := core.Numbers(g)
		threes, many, _ := core.Threes(g)
		pairs, _ := core.Pairs(g)
		for _, other := range []api.Graph{turned, alone} {
			wantNumbers(t, other, numbers, api.OK)
			wantThrees(t, other, threes, many, api.OK)
			wantPairs(t, other, pairs, api.OK)
		}
	}
}

func TestV1ToV3Errors(t *testing.T) {
	for _, w := range sample.WrongGraphs() {
		wantNumbers(t, w.Graph, nil, w.Err)
		wantThrees(t, w.Graph, nil, 0, w.Err)
		wantPairs(t, w.Graph, nil, w.Err)
	}
}
