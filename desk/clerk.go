package desk

import (
	"slices"

	"lampwright/api"
	"lampwright/core"
	"lampwright/graph"
	"lampwright/internal/check"
	"lampwright/internal/reach"
	"lampwright/internal/spell"
	"lampwright/pack"
	"lampwright/shelf"
	"lampwright/strong"
	"lampwright/succ"
	"lampwright/walk"
)

const (
	// done is the reply to a command that has changed the desk.
	done = "ok"
	// none is the reply if there is nothing of what is asked for.
	none = "none"
)

// clerk executes commands at a desk, which has been checked, and is the clerk's own.
type clerk struct {
	api.Desk
}

func (c *clerk) nodes(numbers []int) (string, api.Errno) {
	return c.put(graph.Of(numbers[0], nil))
}

func (c *clerk) arc(numbers []int) (string, api.Errno) {
	// The graph has been checked, so that there is no error.
	arcs, _ := graph.Arcs(c.Graph)
	return c.put(graph.Of(len(c.Graph.Next), append(arcs, arcOf(numbers))))
}

func (c *clerk) drop(numbers []int) (string, api.Errno) {
	if err := c.checkNodes(numbers...); err != api.OK {
		return "", err
	}
	arcs, _ := graph.Arcs(c.Graph)
	at := slices.Index(arcs, arcOf(numbers))
	if at < 0 {
		return "", api.ErrNone
	}
	return c.put(graph.Of(len(c.Graph.Next), slices.Delete(arcs, at, at+1)))
}

func (c *clerk) how(numbers []int) (string, api.Errno) {
	h := api.How{Back: numbers[0], Least: numbers[1], K: numbers[2]}
	if err := succ.Check(h); err != api.OK {
		return "", err
	}
	c.How = h
	return done, api.OK
}

func (c *clerk) bits([]int) (string, api.Errno) {
	p, err := pack.Write(c.Graph, c.How)
	return reply(err, p.Bits.Len)
}

func (c *clerk) list(numbers []int) (string, api.Errno) {
	s, err := shelf.Build(c.Graph, c.How)
	if err != api.OK {
		return "", err
	}
	l, _, err := shelf.List(s, numbers[0])
	return reply(err, l...)
}

func (c *clerk) far(numbers []int) (string, api.Errno) {
	if err := c.checkNodes(numbers...); err != api.OK {
		return "", err
	}
	far, _ := walk.Far(c.Graph, numbers[0])
	if far[numbers[1]] == reach.None {
		return none, api.OK
	}
	return reply(api.OK, far[numbers[1]])
}

func (c *clerk) way(numbers []int) (string, api.Errno) {
	way, err := walk.Way(c.Graph, numbers[0], numbers[1])
	if err == api.ErrNone {
		return none, api.OK
	}
	return reply(err, way...)
}

func (c *clerk) part(numbers []int) (string, api.Errno) {
	return c.ofNode(numbers[0], strong.Parts)
}

func (c *clerk) order([]int) (string, api.Errno) {
	order, err := strong.Order(c.Graph)
	if err == api.ErrState {
		return none, api.OK
	}
	return reply(err, order...)
}

func (c *clerk) core(numbers []int) (string, api.Errno) {
	return c.ofNode(numbers[0], core.Numbers)
}

func (c *clerk) threes([]int) (string, api.Errno) {
	_, many, err := core.Threes(c.Graph)
	return reply(err, many)
}

// put lays a graph on the desk in place of the one there, if it has no error.
func (c *clerk) put(g api.Graph, err api.Errno) (string, api.Errno) {
	if err != api.OK {
		return "", err
	}
	c.Graph = g
	return done, api.OK
}

// checkNodes returns ErrRange if one of the numbers, none of which is less than 0, is not a node.
func (c *clerk) checkNodes(numbers ...int) api.Errno {
	isOutside := func(n int) bool { return n >= len(c.Graph.Next) }
	return check.Range(api.OK, !slices.ContainsFunc(numbers, isOutside))
}

// ofNode replies what numbersOf returns for one of the nodes of the graph.
func (c *clerk) ofNode(node int, numbersOf func(api.Graph) ([]int, api.Errno)) (string, api.Errno) {
	if err := c.checkNodes(node); err != api.OK {
		return "", err
	}
	numbers, _ := numbersOf(c.Graph)
	return reply(api.OK, numbers[node])
}

// arcOf returns the arc that leads from the first number to the second one.
func arcOf(numbers []int) api.Arc { return api.Arc{From: numbers[0], To: numbers[1]} }

// reply returns the numbers as a reply, unless there is an error.
func reply(err api.Errno, numbers ...int) (string, api.Errno) {
	if err != api.OK {
		return "", err
	}
	return spell.Numbers(numbers...), api.OK
}
