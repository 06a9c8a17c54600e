package succ

import (
	"lampwright/api"
	"lampwright/elias"
	"lampwright/gaps"
	"lampwright/parts"
	"lampwright/runs"
)

// maxGap is more than any gap of a run: Fold doubles a distance that is less than that from 0 to MaxNode.
const maxGap = 2 * api.MaxNode

// reader takes codes from bits, one after the other. It gives up by a panic if they are not those of a list.
type reader struct {
	api.Bits
	at int
}

// read returns the list that begins where the reader is, and the position after it.
func (r *reader) read(node int, from []int, h api.How) (l []int, after int, err api.Errno) {
	defer func() {
		switch reason := recover().(type) {
		case nil:
		case api.Errno:
			l, after, err = nil, 0, reason
		default:
			// Whatever else has gone wrong must not get out of here, and no list has been read.
			l, after, err = nil, 0, api.ErrForm
		}
	}()
	start := r.at
	l = r.takeList(node, from, h)
	// Other bits could tell the same list, but only these are written for it.
	w := encode(node, l, from, h)
	insist(w.standsAt(r.Bits, start))
	return l, r.at, api.OK
}

// takeList takes a list, also one that would be written in another way.
func (r *reader) takeList(node int, from []int, h api.How) []int {
	many := r.takeNumber(api.MaxList)
	if many == 0 {
		return nil
	}
	if h.Back == 0 {
		return r.takeRest(many, node, h)
	}
	blocks := r.takeBlocks()
	copied, err := parts.Copy(from, blocks)
	insistOn(err)
	l, err := parts.Join(from, blocks, r.takeRest(many-len(copied), node, h))
	insistOn(err)
	return l
}

func (r *reader) takeBlocks() []int {
	var blocks []int
	for i := range r.takeNumber(api.MaxList) {
		blocks = append(blocks, r.takeNumber(api.MaxList)+leastBlock(i))
	}
	return blocks
}

// takeRest takes as many numbers as many says, in runs or not.
func (r *reader) takeRest(many, node int, h api.How) []int {
	if many == 0 {
		return nil
	}
	var long []api.Run
	if h.Least != 0 {
		long = r.takeRuns(node, h.Least)
	}
	inRuns, err := runs.Count(long)
	insistOn(err)
	// If more numbers are copied or in runs than there are, gaps.Read refuses to read less than none.
	single, after, err := gaps.Read(r.Bits, r.at, node, h.K, many-inRuns)
	insistOn(err)
	r.at = after
	rest, err := runs.Merge(long, single)
	insistOn(err)
	return rest
}

func (r *reader) takeRuns(node, least int) []api.Run {
	var long []api.Run
	for range r.takeNumber(api.MaxList) {
		from := fromOf(uint64(r.takeNumber(maxGap)), long, node)
		long = append(long, api.Run{From: from, Many: least + r.takeNumber(api.MaxList)})
	}
	return long
}

// takeNumber takes the gamma code of a number that is at most most.
func (r *reader) takeNumber(most int) int {
	n, after, err := elias.ReadGamma(r.Bits, r.at)
	insistOn(err)
	insist(n <= uint64(most))
	r.at = after
	return int(n)
}

// insistOn gives up if there is an error.
func insistOn(err api.Errno) { insist(err == api.OK) }

// insist gives up if a condition does not hold.
func insist(holds bool) {
	if !holds {
		panic(api.ErrForm)
	}
}
