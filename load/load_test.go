package load_test

import (
	"bytes"
	"math"
	"testing"

	"lampwright/api"
	"lampwright/internal/sample"
	"lampwright/load"
)

// huge is a quota that allows all files.
func huge() api.Quota {
	return api.Quota{Bytes: math.MaxInt, Nodes: math.MaxInt, Arcs: math.MaxInt, Steps: math.MaxInt}
}

func wantCost(t *testing.T, b []byte, cost api.Quota, err api.Errno) {
	t.Helper()
	if got, gotErr := load.Cost(b); got != cost || gotErr != err {
		t.Errorf("Cost of %d bytes, % .60x: %v %d, must be %v %d", len(b), b, got, gotErr, cost, err)
	}
}

func wantLoad(t *testing.T, b []byte, q api.Quota, g api.Graph, steps int, err api.Errno) {
	t.Helper()
	if got, gotSteps, gotErr := load.Load(b, q); !sample.SameGraph(got, g) || gotSteps != steps || gotErr != err {
		t.Errorf("Load of %d bytes, % .60x, %v: %v %d %d, must be %v %d %d", len(b), b, q, got, gotSteps, gotErr, g, steps, err)
	}
}

// wantRead fails unless the file is that of a graph, and needs this many steps.
func wantRead(t *testing.T, b []byte, g api.Graph, steps int) {
	t.Helper()
	cost := api.Quota{Bytes: len(b), Nodes: len(g.Next), Arcs: arcsOf(g), Steps: steps}
	wantCost(t, b, cost, api.OK)
	wantLoad(t, b, cost, g, steps, api.OK)
}

// wantRefused fails unless the bytes are not a file.
func wantRefused(t *testing.T, b []byte) {
	t.Helper()
	wantCost(t, b, api.Quota{}, api.ErrForm)
	wantLoad(t, b, huge(), api.Graph{}, 0, api.ErrForm)
}

// someFiles are files of both kinds.
func someFiles() [][]byte {
	var all [][]byte
	for _, g := range append(sample.MixedGraphs(), api.Graph{}, sample.Graph(nil), sample.Graph([]int{0}), sample.Full(nodes, 6), sample.Full(nodes, 0)) {
		all = append(all, sample.GapsFile(g), sample.BitsFile(g, api.How{K: 1}), sample.BitsFile(g, api.How{Back: 3, Least: 2, K: 2}))
	}
	return all
}

// fields returns where the numbers of a quota are, so that each can be changed alone.
func fields(q *api.Quota) []*int { return []*int{&q.Bytes, &q.Nodes, &q.Arcs, &q.Steps} }

// needs returns what a right file needs.
func needs(b []byte) api.Quota {
	cost, _ := load.Cost(b)
	return cost
}

func TestS3QuotasAtTheEdge(t *testing.T) {
	for _, b := range someFiles() {
		cost := needs(b)
		g, steps, _ := load.Load(b, huge())
		wantLoad(t, b, cost, g, steps, api.OK)
		for i := range fields(&cost) {
			q := cost
			*fields(&q)[i]++
			wantLoad(t, b, q, g, steps, api.OK)
			*fields(&q)[i] = math.MaxInt
			wantLoad(t, b, q, g, steps, api.OK)
			q = huge()
			*fields(&q)[i] = *fields(&cost)[i]
			wantLoad(t, b, q, g, steps, api.OK)
			for _, less := range []int{*fields(&cost)[i] - 1, *fields(&cost)[i] / 2, -1, math.MinInt} {
				if less == *fields(&cost)[i] {
					continue
				}
				q, alone := cost, huge()
				*fields(&q)[i], *fields(&alone)[i] = less, less
				wantLoad(t, b, q, api.Graph{}, 0, api.ErrFull)
				wantLoad(t, b, alone, api.Graph{}, 0, api.ErrFull)
			}
		}
		wantLoad(t, b, api.Quota{}, api.Graph{}, 0, api.ErrFull)
		wantLoad(t, b, api.Quota{Bytes: -1, Nodes: -1, Arcs: -1, Steps: -1}, api.Graph{}, 0, api.ErrFull)
	}
}

// A file can need nothing but its bytes.
func TestS3QuotasOfNothing(t *testing.T) {
	wantLoad(t, sample.BitsFile(api.Graph{}, api.How{K: 1}), api.Quota{Bytes: 8}, api.Graph{}, 0, api.OK)
	wantLoad(t, sample.GapsFile(api.Graph{}), api.Quota{Bytes: 4, Steps: 1}, api.Graph{}, 1, api.OK)
	wantLoad(t, sample.GapsFile(api.Graph{}), api.Quota{Bytes: 4}, api.Graph{}, 0, api.ErrFull)
	wantLoad(t, sample.GapsFile(sample.Graph(nil)), api.Quota{Bytes: 5, Nodes: 1, Steps: 2}, sample.Graph(nil), 2, api.OK)
}

// none is a quota that allows this many bytes and nothing else.
func none(many int) api.Quota {
	return api.Quota{Bytes: many, Nodes: math.MinInt, Arcs: math.MinInt, Steps: math.MinInt}
}

// Too many bytes for the quota come before all other errors, and what else a file needs comes after them.
func TestS3ErrorsInOrder(t *testing.T) {
	right := sample.GapsFile(sample.Graph([]int{0}))
	for _, c := range []struct {
		b   []byte
		err api.Errno
	}{
		{nil, api.ErrForm},
		{[]byte{76, 87}, api.ErrForm},
		{[]byte{76, 87, 3, 0}, api.ErrForm},
		{[]byte{76, 87, 1, 1, 1, 1}, api.ErrForm},
		{append(right, 0), api.ErrForm},
		{make([]byte, api.MaxBytes), api.ErrForm},
		{make([]byte, api.MaxBytes+1), api.ErrMany},
		{append(bytes.Clone(right), make([]byte, api.MaxBytes)...), api.ErrMany},
		{right, api.ErrFull},
		{sample.BitsFile(sample.Graph([]int{0}), api.How{K: 1}), api.ErrFull},
	} {
		for _, less := range []int{len(c.b) - 1, len(c.b) - 2, -1, math.MinInt} {
			q := huge()
			q.Bytes = less
			wantLoad(t, c.b, q, api.Graph{}, 0, api.ErrFull)
			wantLoad(t, c.b, none(less), api.Graph{}, 0, api.ErrFull)
		}
		for _, many := range []int{len(c.b), len(c.b) + 1, math.MaxInt} {
			wantLoad(t, c.b, none(many), api.Graph{}, 0, c.err)
		}
	}
}
