package runs_test

import (
	"math"
	"slices"
	"testing"

	"lampwright/api"
	"lampwright/internal/sample"
	"lampwright/runs"
)

func wantMerge(t *testing.T, r []api.Run, rest, l []int, err api.Errno) {
	t.Helper()
	if gotL, gotErr := runs.Merge(r, rest); !slices.Equal(gotL, l) || gotErr != err {
		t.Errorf("Merge of %v and %v: %v %d, must be %v %d", r, rest, gotL, gotErr, l, err)
	}
}

func wantCount(t *testing.T, r []api.Run, many int, err api.Errno) {
	t.Helper()
	if gotMany, gotErr := runs.Count(r); gotMany != many || gotErr != err {
		t.Errorf("Count of %v: %d %d, must be %d %d", r, gotMany, gotErr, many, err)
	}
}

// repeat returns many runs from first on, each step after the one before, of so many numbers.
func repeat(first, step, many, numbers int) []api.Run {
	var r []api.Run
	for _, from := range sample.Steps(first, step, many) {
		r = append(r, api.Run{From: from, Many: numbers})
	}
	return r
}

// wrongRuns is a list of runs that is not right, and the error that says so.
type wrongRuns struct {
	r   []api.Run
	err api.Errno
}

// allWrongRuns returns lists of runs with each error that one or several of them can have.
func allWrongRuns() []wrongRuns {
	all := []wrongRuns{
		{repeat(0, 2, most+1, 1), api.ErrMany},
		{make([]api.Run, most+1), api.ErrMany},
		{repeat(-1, 0, most+1, -1), api.ErrMany},
		{repeat(5, 0, 10*most, 1), api.ErrMany},
		{[]api.Run{{From: top, Many: 2}}, api.ErrRange},
		{[]api.Run{{From: top - 1, Many: 3}}, api.ErrRange},
		{[]api.Run{{From: top - most + 2, Many: most}}, api.ErrRange},
		{[]api.Run{{From: 0, Many: most + 1}}, api.ErrRange},
		{[]api.Run{{From: 3, Many: 2}, {From: 5, Many: 1}}, api.ErrState},
		{[]api.Run{{From: 3, Many: 2}, {From: 4, Many: 1}}, api.ErrState},
		{[]api.Run{{From: 3, Many: 2}, {From: 3, Many: 2}}, api.ErrState},
		{[]api.Run{{From: 3, Many: 2}, {From: 0, Many: 1}}, api.ErrState},
		{[]api.Run{{From: 0, Many: 1}, {From: 1, Many: 1}}, api.ErrState},
		{[]api.Run{{From: 0, Many: 1}, {From: 0, Many: 1}}, api.ErrState},
		{[]api.Run{{From: top, Many: 1}, {From: top, Many: 1}}, api.ErrState},
		{append(repeat(0, 3, most-1, 2), api.Run{From: 3 * (most - 2), Many: 2}), api.ErrState},
		// The first run with an error determines it, and of its errors it is ErrRange.
		{[]api.Run{{From: 5, Many: 1}, {From: 1, Many: 1}, {From: -1, Many: 1}}, api.ErrState},
		{[]api.Run{{From: 5, Many: 1}, {From: 1, Many: 0}}, api.ErrRange},
		{[]api.Run{{From: 5, Many: 1}, {From: -1, Many: 1}}, api.ErrRange},
		{[]api.Run{{From: 5, Many: 0}, {From: 1, Many: 1}}, api.ErrRange},
	}
	for _, bad := range []api.Run{{From: -1, Many: 1}, {From: -1, Many: 2}, {From: math.MinInt, Many: 1}, {From: math.MinInt, Many: math.MinInt}, {From: top + 1, Many: 1}, {From: top + 1, Many: 0}, {From: math.MaxInt, Many: 1}, {From: math.MaxInt, Many: math.MaxInt}, {From: 990}, {From: 990, Many: -1}, {From: 990, Many: math.MinInt}, {From: 990, Many: math.MaxInt}, {From: 990, Many: most + 1}} {
		for _, at := range []int{0, 1, 100, most - 1} {
			r := repeat(1000, 2, most, 1)
			r[at] = bad
			all = append(all, wrongRuns{r, api.ErrRange}, wrongRuns{r[:at+1], api.ErrRange})
		}
	}
	return all
}

func TestJ2MergeByHand(t *testing.T) {
	for _, c := range []struct {
		r    []api.Run
		rest []int
		l    []int
	}{
		{nil, nil, nil},
		{nil, []int{3, 4, 9}, []int{3, 4, 9}},
		{[]api.Run{{From: 3, Many: 2}}, nil, []int{3, 4}},
		{[]api.Run{{From: 2, Many: 4}}, []int{9, 20}, []int{2, 3, 4, 5, 9, 20}},
		{[]api.Run{{From: 3, Many: 2}}, []int{1, 2, 5}, []int{1, 2, 3, 4, 5}},
		{[]api.Run{{From: 0, Many: 1}, {From: 2, Many: 1}, {From: 4, Many: 1}}, []int{1, 3, 5}, []int{0, 1, 2, 3, 4, 5}},
		{[]api.Run{{From: 3, Many: 2}, {From: 6, Many: 1}}, nil, []int{3, 4, 6}},
		{[]api.Run{{From: 0, Many: 1}, {From: top, Many: 1}}, []int{1, top - 1}, []int{0, 1, top - 1, top}},
		{[]api.Run{{From: 0, Many: most}}, nil, sample.Steps(0, 1, most)},
		{[]api.Run{{From: top - most + 1, Many: most}}, nil, sample.Steps(top-most+1, 1, most)},
		{repeat(7, 2, most, 1), nil, sample.Steps(7, 2, most)},
		{repeat(0, 2, most/2, 1), sample.Steps(1, 2, most/2), sample.Steps(0, 1, most)},
	} {
		wantMerge(t, c.r, c.rest, c.l, api.OK)
	}
}

func TestJ2MergeTakesBackWhatIsSplit(t *testing.T) {
	for _, l := range append(sample.Rising(10), sample.EdgeLists()...) {
		for _, least := range []int{2, 3, 4, 10, most} {
			r, rest, _ := runs.Split(l, least)
			wantMerge(t, r, rest, l, api.OK)
			wantCount(t, r, len(l)-len(rest), api.OK)
		}
	}
}

// shortRuns returns all lists of at most two runs of a few numbers, right or wrong.
func shortRuns() [][]api.Run {
	var single []api.Run
	for from := -1; from < 6; from++ {
		for many := range 4 {
			single = append(single, api.Run{From: from, Many: many})
		}
	}
	all := [][]api.Run{nil}
	for _, a := range single {
		all = append(all, []api.Run{a})
		for _, b := range single {
			all = append(all, []api.Run{a, b})
		}
	}
	return all
}

// errorOf is the first error that J2 names for a few small runs.
func errorOf(r []api.Run) api.Errno {
	for i, run := range r {
		if run.From < 0 || run.Many < 1 {
			return api.ErrRange
		}
		if i > 0 && run.From < r[i-1].From+r[i-1].Many+1 {
			return api.ErrState
		}
	}
	return api.OK
}

func TestJ2MergeOfEachFewRuns(t *testing.T) {
	for _, r := range shortRuns() {
		err := errorOf(r)
		counted := map[int]int{}
		if err == api.OK {
			for _, run := range r {
				for i := range run.Many {
					counted[run.From+i]++
				}
			}
		}
		wantCount(t, r, len(counted), err)
		for _, rest := range sample.Rising(7) {
			wantMergeOf(t, r, rest, counted, err)
		}
	}
}

// wantMergeOf fails unless Merge returns the error, or counts each number of the runs and of rest once, or returns ErrTwice.
func wantMergeOf(t *testing.T, r []api.Run, rest []int, counted map[int]int, err api.Errno) {
	t.Helper()
	var l []int
	for n := range 12 {
		times := counted[n]
		if slices.Contains(rest, n) {
			times++
		}
		if times > 0 {
			l = append(l, n)
		}
		if times > 1 && err == api.OK {
			err = api.ErrTwice
		}
	}
	if err != api.OK {
		l = nil
	}
	wantMerge(t, r, rest, l, err)
}

// Whatever is wrong with rest comes after what is wrong with the runs.
func TestJ2MergeErrorsOfRuns(t *testing.T) {
	for _, w := range allWrongRuns() {
		wantMerge(t, w.r, nil, nil, w.err)
		wantMerge(t, w.r, []int{5}, nil, w.err)
		wantMerge(t, w.r, []int{-1}, nil, w.err)
		wantMerge(t, w.r, []int{1000, 1000}, nil, w.err)
		wantMerge(t, w.r, make([]int, most+1), nil, w.err)
	}
}

func TestJ2MergeErrorsOfRest(t *testing.T) {
	for _, w := range sample.WrongLists() {
		wantMerge(t, nil, w.List, nil, w.Err)
		// Numbers of rest that are in a run, and too many numbers, come after what is wrong with rest.
		wantMerge(t, []api.Run{{From: 3, Many: 200}}, w.List, nil, w.Err)
		wantMerge(t, repeat(0, 400, most, most), w.List, nil, w.Err)
	}
}

func TestJ2MergeErrTwiceComesBeforeErrMany(t *testing.T) {
	for _, c := range []struct {
		r    []api.Run
		rest []int
		err  api.Errno
	}{
		{[]api.Run{{From: 3, Many: 2}}, []int{3}, api.ErrTwice},
		{[]api.Run{{From: 3, Many: 2}}, []int{4}, api.ErrTwice},
		{[]api.Run{{From: 3, Many: 2}}, []int{0, 1, 2, 4, 5}, api.ErrTwice},
		{[]api.Run{{From: 0, Many: 1}}, []int{0}, api.ErrTwice},
		{[]api.Run{{From: top, Many: 1}}, []int{top}, api.ErrTwice},
		{[]api.Run{{From: 0, Many: most}}, []int{most - 1}, api.ErrTwice},
		{[]api.Run{{From: 0, Many: most}}, []int{most}, api.ErrMany},
		{[]api.Run{{From: 0, Many: most}}, []int{most - 1, most}, api.ErrTwice},
		{[]api.Run{{From: 0, Many: most}}, []int{most, top}, api.ErrMany},
		{[]api.Run{{From: 1, Many: most}}, []int{0}, api.ErrMany},
		{[]api.Run{{From: 1, Many: 1}}, sample.Steps(2, 1, most), api.ErrMany},
		{[]api.Run{{From: 1, Many: 1}}, sample.Steps(1, 1, most), api.ErrTwice},
		{[]api.Run{{From: 1, Many: 1}}, sample.Steps(2, 1, most-1), api.OK},
		{repeat(0, 400, most, most), nil, api.ErrMany},
		{repeat(0, 400, most, most), []int{most}, api.ErrMany},
		{repeat(0, 400, most, most), []int{400*(most-1) + 5}, api.ErrTwice},
		{repeat(0, 3, most/2, 2), []int{2}, api.ErrMany},
		{repeat(0, 3, most/2, 2), []int{2, 3}, api.ErrTwice},
	} {
		if l, err := runs.Merge(c.r, c.rest); err != c.err || err != api.OK && len(l) != 0 {
			t.Errorf("Merge of %v and %v: %v %d, must be %d", c.r, c.rest, l, err, c.err)
		}
	}
}

func TestJ2CountByHand(t *testing.T) {
	for _, c := range []struct {
		r    []api.Run
		many int
		err  api.Errno
	}{
		{nil, 0, api.OK},
		{[]api.Run{{From: 5, Many: 1}}, 1, api.OK},
		{[]api.Run{{From: 3, Many: 2}, {From: 6, Many: 1}, {From: 100, Many: 50}}, 53, api.OK},
		{[]api.Run{{From: 0, Many: most}}, most, api.OK},
		{repeat(0, 2, most, 1), most, api.OK},
		{repeat(0, 3, most/2, 2), most, api.OK},
		{[]api.Run{{From: 0, Many: most}, {From: most + 1, Many: 1}}, 0, api.ErrMany},
		{repeat(0, 3, most/2+1, 2), 0, api.ErrMany},
		{repeat(0, 400, most, most), 0, api.ErrMany},
		{append(repeat(0, 400, most-1, most), api.Run{From: 5, Many: 1}), 0, api.ErrState},
	} {
		wantCount(t, c.r, c.many, c.err)
	}
}

func TestJ2CountErrors(t *testing.T) {
	for _, w := range allWrongRuns() {
		wantCount(t, w.r, 0, w.err)
	}
}
