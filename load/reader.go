package load

import (
	"bytes"

	"lampwright/api"
	"lampwright/gaps"
	"lampwright/graph"
	"lampwright/pack"
	"lampwright/varint"
)

// reader reads what follows the kind of a file, and counts the steps.
type reader struct {
	rest  []byte
	steps int
}

// kinds returns what reads files of each kind.
func (r *reader) kinds() map[byte]func() (api.Graph, api.Errno) {
	return map[byte]func() (api.Graph, api.Errno){
		api.KindGaps: r.readGaps,
		api.KindBits: r.readBits,
	}
}

// read returns the graph of a file, and what the file needs.
func read(b []byte) (api.Graph, api.Quota, api.Errno) {
	if len(b) > api.MaxBytes {
		return api.Graph{}, api.Quota{}, api.ErrMany
	}
	g, steps, err := readFile(b)
	// Whatever is wrong, Save does not return such a file.
	if err != api.OK {
		return api.Graph{}, api.Quota{}, api.ErrForm
	}
	return g, api.Quota{Bytes: len(b), Nodes: len(g.Next), Arcs: countArcs(g), Steps: steps}, api.OK
}

// readFile returns the graph of a file, and the number of its steps.
func readFile(b []byte) (api.Graph, int, api.Errno) {
	rest, marked := bytes.CutPrefix(b, []byte(mark))
	if !marked || len(rest) == 0 {
		return api.Graph{}, 0, api.ErrForm
	}
	r := reader{rest: rest[1:]}
	readKind, known := r.kinds()[rest[0]]
	if !known {
		return api.Graph{}, 0, api.ErrForm
	}
	g, err := readKind()
	return g, r.steps, err
}

// readGaps returns the graph of a file of KindGaps. Each number is written in only one way, and so is each list by its gaps, so that there is no other file of this graph.
func (r *reader) readGaps() (api.Graph, api.Errno) {
	numbers, err := varint.All(r.rest)
	if err != api.OK {
		return api.Graph{}, err
	}
	if len(numbers) == 0 || numbers[0] > api.MaxNodes {
		return api.Graph{}, api.ErrForm
	}
	r.steps = len(numbers)
	nodes, numbers := int(numbers[0]), numbers[1:]
	g := api.Graph{}
	for node := range nodes {
		l, after, err := listAt(numbers, node)
		if err != api.OK {
			return api.Graph{}, err
		}
		g.Next = append(g.Next, l)
		numbers = after
	}
	if len(numbers) > 0 {
		return api.Graph{}, api.ErrForm
	}
	return g, graph.Check(g)
}

// listAt returns the list of a node that is at the beginning of numbers, and the numbers after it.
func listAt(numbers []uint64, node int) ([]int, []uint64, api.Errno) {
	if len(numbers) == 0 || numbers[0] >= uint64(len(numbers)) {
		return nil, nil, api.ErrShort
	}
	after := 1 + int(numbers[0])
	l, err := gaps.Back(numbers[1:after], node)
	return l, numbers[after:], err
}

// readBits returns the graph of a file of KindBits.
func (r *reader) readBits() (api.Graph, api.Errno) {
	var head [5]int
	at := 0
	for i := range head {
		n, after, err := varint.Read(r.rest, at)
		if err != api.OK {
			return api.Graph{}, err
		}
		// None of these numbers may be as great, and one that is could become another one as an int.
		if n > api.MaxLen {
			return api.Graph{}, api.ErrRange
		}
		head[i], at = int(n), after
	}
	r.steps = head[4]
	return pack.Read(api.Packed{
		N:    head[0],
		How:  api.How{Back: head[1], Least: head[2], K: head[3]},
		Bits: api.Bits{Len: head[4], Bytes: r.rest[at:]},
	})
}

// countArcs returns the number of arcs of a graph.
func countArcs(g api.Graph) int {
	many := 0
	for _, l := range g.Next {
		many += len(l)
	}
	return many
}
