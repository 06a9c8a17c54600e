package desk_test

import (
	"fmt"
	"strings"
	"testing"

	"lampwright/api"
	"lampwright/desk"
	"lampwright/internal/sample"
)

func wantRun(t *testing.T, d api.Desk, text string, after api.Desk, replies string, err api.Errno) {
	t.Helper()
	if got, gotReplies, gotErr := desk.Run(d, text); !sameDesk(got, after) || gotReplies != replies || gotErr != err {
		t.Errorf("Run of %.60q at %v: %v %q %d, must be %v %q %d", text, d, got, gotReplies, gotErr, after, replies, err)
	}
}

func TestX4ByHand(t *testing.T) {
	d := deskOf(api.Graph{}, plain)
	wantRun(t, d, "nodes 3\narc 0 2\narc 2 1\norder\n\nway 0 1\nwhat\ndrop 0 2\nway 0 1\ncore 2\n", deskOf(sample.Graph(nil, nil, []int{1}), plain), "ok\nok\nok\n0 2 1\n0 2 1\nerror 1\nok\nnone\n1\n", api.OK)
	wantRun(t, d, "nodes 2\narc 1 0\nhow 1 2 3", deskOf(sample.Graph(nil, []int{0}), api.How{Back: 1, Least: 2, K: 3}), "ok\nok\nok\n", api.OK)
	// An empty line has no reply, but a reply can be empty.
	for _, text := range []string{"", "\n", "\n\n\n"} {
		wantRun(t, d, text, d, "", api.OK)
	}
	wantRun(t, d, "order", d, "\n", api.OK)
	wantRun(t, d, "order\n", d, "\n", api.OK)
	wantRun(t, d, "\n\norder\n\nbits\n\n", d, "\n0\n", api.OK)
	// Any other line has one, also if nothing of it can be seen.
	wantRun(t, d, " ", d, "error 1\n", api.OK)
	wantRun(t, d, " \n\t\n\r\n", d, "error 1\nerror 1\nerror 1\n", api.OK)
	wantRun(t, d, "bits\r\nbits", d, "error 1\n0\n", api.OK)
	wantRun(t, d, "bits\x00\nbits\v", d, "error 1\nerror 1\n", api.OK)
}

// Each error that a line can have is a reply, and changes nothing.
func TestX4ErrorsOfLines(t *testing.T) {
	d := deskOf(sample.Graph([]int{1}, nil), plain)
	wantRun(t, d, "x\nnodes 101\narc 0 1\ndrop 1 0\narc 0 2\nhow 8 0 1\nhow 0 0 17\nlist 2\nfar 0 2\nway 2 0\npart 2\ncore 2\nlist 0", d, "error 1\nerror 3\nerror 6\nerror 5\nerror 3\nerror 3\nerror 3\nerror 3\nerror 3\nerror 3\nerror 3\nerror 3\n1\n", api.OK)
	// The way of encoding and the graph are what they were before a line with an error.
	wantRun(t, d, "arc 1 1\narc 1 1\nhow 1 2 3\nhow 1 2 0\ndrop 0 1\ndrop 0 1\nlist 1", deskOf(sample.Graph(nil, []int{1}), api.How{Back: 1, Least: 2, K: 3}), "ok\nerror 6\nok\nerror 3\nok\nerror 5\n1\n", api.OK)
	full := deskOf(sample.Full(nodes, 6), plain)
	wantRun(t, full, "arc 9 9\narc 0 0\narc 100 0\ndrop 0 0\narc 9 9\narc 8 8\nlist 9", deskOf(with(with(full.Graph, 0, 0, false), 9, 9, true), plain), "error 2\nerror 2\nerror 2\nok\nok\nerror 2\n9\n", api.OK)
	long := deskOf(sample.Long(0), api.How{K: 16})
	wantRun(t, long, "bits\nlist 0\nlist 100\nhow 0 0 15\nlist 0", deskOf(long.Graph, api.How{K: 15}), "error 8\nerror 8\nerror 8\nok\n1 3 5 7 9\n", api.OK)
}

func TestX4Errors(t *testing.T) {
	many := strings.Repeat("\n", api.MaxOrders)
	for _, text := range []string{"", "order", "x", "nodes 1\n", many} {
		for _, w := range sample.WrongGraphs() {
			wantRun(t, deskOf(w.Graph, plain), text, api.Desk{}, "", w.Err)
			wantRun(t, deskOf(w.Graph, api.How{}), text, api.Desk{}, "", w.Err)
		}
		for _, h := range sample.WrongHows() {
			wantRun(t, deskOf(sample.Graph([]int{1}, nil), h), text, api.Desk{}, "", api.ErrRange)
		}
	}
}

// Lines of any kind are counted.
func TestX4ErrManyAtTheEdge(t *testing.T) {
	const most = api.MaxOrders
	d := deskOf(sample.Graph([]int{1}, nil), plain)
	for line, reply := range map[string]string{"": "", "x": "error 1\n", "list 0": "1\n", "how 0 0 1": "ok\n", " ": "error 1\n"} {
		for _, last := range []struct{ line, reply string }{{"", ""}, {"order", "0 1\n"}, {"nodes 101", "error 3\n"}} {
			for many := range 3 * most {
				text := strings.Repeat(line+"\n", many) + last.line
				if many < most {
					wantRun(t, d, text, d, strings.Repeat(reply, many)+last.reply, api.OK)
				} else {
					wantRun(t, d, text, api.Desk{}, "", api.ErrMany)
				}
			}
		}
	}
}

// script returns so many lines, most of which change the desk, or ask something about it; with another seed, they are others.
func script(many, seed int) []string {
	state := uint64(seed)
	draw := func(n int) int {
		state = state*6364136223846793005 + 1442695040888963407
		return int(state >> 33 % uint64(n))
	}
	all := []string{fmt.Sprintf("nodes %d", 2+draw(6))}
	for len(all) < many {
		a, b := draw(8), draw(8)
		switch kind := draw(20); kind {
		case 0:
			all = append(all, fmt.Sprintf("nodes %d", a))
		case 1:
			all = append(all, fmt.Sprintf("how %d %d %d", a, b, 1+draw(3)))
		case 2:
			all = append(all, "bits", "order", "threes", "", "what")
		case 3, 4:
			all = append(all, fmt.Sprintf("drop %d %d", a, b))
		case 5, 6, 7, 8:
			name := []string{"list", "part", "core", "nodes"}[kind-5]
			all = append(all, fmt.Sprintf("%s %d", name, a+1))
		case 9, 10:
			all = append(all, fmt.Sprintf("%s %d %d", []string{"far", "way"}[kind-9], a, b))
		default:
			all = append(all, fmt.Sprintf("arc %d %d", a, b))
		}
	}
	return all[:many]
}

// Run does what Do does for each line that is not empty, one after the other.
func TestX4RunsWhatDoDoes(t *testing.T) {
	for seed := range 200 {
		lines := script(1+seed%api.MaxOrders, seed)
		d := deskOf(sample.Graph([]int{1}, []int{0}), mixed)
		after, want := d, ""
		for _, line := range lines {
			next, reply, err := desk.Do(after, line)
			switch {
			case line == "":
			case err == api.OK:
				after = next
				want += reply + "\n"
			default:
				want += fmt.Sprintf("error %d\n", err)
			}
		}
		wantRun(t, d, strings.Join(lines, "\n"), after, want, api.OK)
	}
}
