package succ

import (
	"bytes"

	"lampwright/api"
	"lampwright/bits"
	"lampwright/elias"
	"lampwright/gaps"
	"lampwright/parts"
	"lampwright/runs"
)

// writer appends codes to bits, up to the first error.
type writer struct {
	api.Bits
	err api.Errno
}

// encode returns a writer that has written the list of a node. All arguments have been checked.
func encode(node int, l, from []int, h api.How) writer {
	w := writer{}
	w.addList(node, l, from, h)
	return w
}

func (w *writer) addList(node int, l, from []int, h api.How) {
	w.addNumber(len(l))
	if len(l) == 0 {
		return
	}
	rest := l
	if h.Back != 0 {
		rest = w.addBlocks(from, l)
	}
	if len(rest) == 0 {
		return
	}
	if h.Least != 0 {
		rest = w.addRuns(node, rest, h.Least)
	}
	w.add(gaps.Write(rest, node, h.K))
}

// addBlocks writes which elements of from are copied, and returns those of l that are not.
func (w *writer) addBlocks(from, l []int) []int {
	// Both lists have been checked, so that there is no error.
	blocks, rest, _ := parts.Blocks(from, l)
	w.addNumber(len(blocks))
	for i, block := range blocks {
		w.addNumber(block - leastBlock(i))
	}
	return rest
}

// addRuns writes the runs of a list, and returns the numbers that are in none.
func (w *writer) addRuns(node int, l []int, least int) []int {
	// The list and least have been checked, so that there is no error.
	long, rest, _ := runs.Split(l, least)
	w.addNumber(len(long))
	for i, run := range long {
		w.add(elias.Gamma(gapOf(run.From, long[:i], node)))
		w.addNumber(run.Many - least)
	}
	return rest
}

func (w *writer) addNumber(n int) { w.add(elias.Gamma(uint64(n))) }

// add appends a code, or keeps its error.
func (w *writer) add(code api.Bits, err api.Errno) {
	if w.err != api.OK {
		return
	}
	if err != api.OK {
		w.err = err
		return
	}
	w.Bits, w.err = bits.Join(w.Bits, code)
}

// standsAt reports whether all that is written stands in b from position at on.
func (w *writer) standsAt(b api.Bits, at int) bool {
	same, err := bits.Cut(b, at, at+w.Len)
	return w.err == api.OK && err == api.OK && bytes.Equal(same.Bytes, w.Bytes)
}
