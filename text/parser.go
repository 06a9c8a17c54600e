package text

import (
	"strings"

	"lampwright/api"
	"lampwright/graph"
	"lampwright/internal/check"
)

// parser takes one line of a text after the other, and keeps what they say of a graph.
type parser struct {
	nodes    int
	hasNodes bool
	arcs     []api.Arc
	before   map[api.Arc]bool
}

// takeLine takes a line, also one that says nothing.
func (p *parser) takeLine(line string) api.Errno {
	words := wordsOf(line)
	switch {
	case len(words) == 0 || strings.HasPrefix(words[0], "#"):
		return api.OK
	case !p.hasNodes:
		return p.takeNodes(words)
	default:
		return p.takeArc(words)
	}
}

// takeNodes takes the number of nodes.
func (p *parser) takeNodes(words []string) api.Errno {
	l, err := numbersOf(words, 1)
	if err != api.OK {
		return err
	}
	p.nodes, p.hasNodes = l[0], true
	return check.Range(api.OK, p.nodes <= api.MaxNodes)
}

// takeArc takes an arc. It keeps no more of them than there may be.
func (p *parser) takeArc(words []string) api.Errno {
	l, err := numbersOf(words, 2)
	if err != api.OK {
		return err
	}
	arc := api.Arc{From: l[0], To: l[1]}
	switch {
	case arc.From >= p.nodes || arc.To >= p.nodes:
		return api.ErrRange
	case p.before[arc]:
		return api.ErrTwice
	case len(p.arcs) == api.MaxArcs:
		return api.ErrMany
	}
	p.before[arc] = true
	p.arcs = append(p.arcs, arc)
	return api.OK
}

// graph returns the graph of all lines that have been taken.
func (p *parser) graph() (api.Graph, api.Errno) {
	if !p.hasNodes {
		return api.Graph{}, api.ErrNone
	}
	return graph.Of(p.nodes, p.arcs)
}
