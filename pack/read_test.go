package pack_test

import (
	"math"
	"slices"
	"strings"
	"testing"

	"lampwright/api"
	"lampwright/internal/sample"
	"lampwright/pack"
)

// wantShortTexts fails unless of all texts of at most longest signs exactly those that N1 says of a graph with n nodes are read, as this graph.
func wantShortTexts(t *testing.T, longest, n int, h api.How) {
	t.Helper()
	graphs := map[string]api.Graph{}
	for _, g := range sample.Graphs(n) {
		text, _, _ := sample.Pack(g, h)
		if _, ok := graphs[text]; ok {
			t.Errorf("%s is the text of two graphs", text)
		}
		graphs[text] = g
	}
	for _, text := range sample.Texts(longest) {
		err := api.ErrForm
		if _, ok := graphs[text]; ok {
			err = api.OK
		}
		wantRead(t, packed(n, h, text), graphs[text], err)
	}
}

func TestN3ReadOfEachShortText(t *testing.T) {
	for n := range 4 {
		for _, h := range hows() {
			wantShortTexts(t, 13, n, h)
		}
	}
}

// manyGraphs are graphs whose texts are changed.
func manyGraphs() []api.Graph {
	return append(sample.MixedGraphs(), sample.Full(24, 24), sample.Circle(nodes, 0, 1, 2, 7, 8))
}

// wantOfTexts looks at the text of each of these graphs by each way of encoding, if there is room for it.
func wantOfTexts(t *testing.T, want func(g api.Graph, h api.How, text string)) {
	t.Helper()
	for _, g := range manyGraphs() {
		for _, h := range hows() {
			if text, _, _ := sample.Pack(g, h); len(text) <= api.MaxLen {
				want(g, h, text)
			}
		}
	}
}

func TestN3ReadRefusesAnotherEnd(t *testing.T) {
	wantOfTexts(t, func(g api.Graph, h api.How, text string) {
		n := len(g.Next)
		for end := range len(text) {
			if len(text) < 500 || end%97 == 0 || end > len(text)-9 {
				wantRead(t, packed(n, h, text[:end]), api.Graph{}, api.ErrForm)
			}
		}
		for _, more := range []string{"0", "1", "11", "00000000", "1010101010101010"} {
			wantRead(t, packed(n, h, text+more), api.Graph{}, api.ErrForm)
		}
	})
}

func TestN3ReadRefusesAnotherNumberOfNodes(t *testing.T) {
	wantOfTexts(t, func(g api.Graph, h api.How, text string) {
		for n := range nodes + 1 {
			if n != len(g.Next) && (n < 50 || n > nodes-3) {
				wantRead(t, packed(n, h, text), api.Graph{}, api.ErrForm)
			}
		}
	})
}

// Whatever is read has this text, also if one sign is another one.
func TestN3ReadOfChangedTexts(t *testing.T) {
	read := 0
	wantOfTexts(t, func(g api.Graph, h api.How, text string) {
		for at := range text {
			if len(text) > 500 && at%41 != 0 {
				continue
			}
			p := packed(len(g.Next), h, text)
			p.Bits.Bytes[at/8] ^= 0x80 >> (at % 8)
			other, err := pack.Read(p)
			if err == api.ErrForm && len(other.Next) == 0 {
				continue
			}
			read++
			if again, _, _ := sample.Pack(other, h); len(other.Next) != len(g.Next) || !sample.Same(p.Bits, again) || err != api.OK {
				t.Errorf("Read of %v with sign %d changed: %v %d", g, at, other, err)
			}
		}
	})
	if read == 0 {
		t.Error("no text that is changed is read")
	}
}

// The text of another way of encoding is refused, or it is that of another graph.
func TestN3ReadByAnotherWay(t *testing.T) {
	wantOfTexts(t, func(g api.Graph, h api.How, text string) {
		for _, other := range sample.Hows() {
			p := packed(len(g.Next), other, text)
			if got, err := pack.Read(p); err != api.OK {
				wantRead(t, p, api.Graph{}, api.ErrForm)
			} else if again, _, _ := sample.Pack(got, other); again != text {
				t.Errorf("Read of %v, %v, by %v: %v", g, h, other, got)
			}
		}
	})
}

// spelled spells a graph whose nodes have these places before them, whether or not those are the best ones.
func spelled(g api.Graph, h api.How, backs ...int) string {
	text := ""
	for node, back := range backs {
		text += sample.PackNode(g, node, back, h)
	}
	return text
}

// Each choice of references has a text of its own, and all of them but one are refused.
func TestN3ReadRefusesOtherReferences(t *testing.T) {
	for _, g := range []api.Graph{
		sample.Graph([]int{0}, []int{0}, []int{0}, []int{0}),
		sample.Graph([]int{0, 1}, []int{0, 1}, []int{0, 1}, []int{0, 1}),
		sample.Graph([]int{0, 1, 3}, []int{2}, []int{0, 1, 3}, []int{2, 3}),
		sample.Graph(nil, nil, nil, nil),
		sample.Graph([]int{0, 1, 2, 3}, []int{1, 2, 3}, nil, []int{0, 1, 2}),
	} {
		for _, h := range []api.How{{Back: 1, K: 1}, {Back: 2, K: 2}, {Back: 3, Least: 2, K: 1}, {Back: 7, K: 3}} {
			_, best, _ := sample.Pack(g, h)
			for _, backs := range sample.Lists(4, 3) {
				if backs[0] > 0 || backs[1] > min(h.Back, 1) || backs[2] > min(h.Back, 2) || backs[3] > h.Back {
					continue
				}
				want, err := api.Graph{}, api.ErrForm
				if slices.Equal(backs, best) {
					want, err = g, api.OK
				}
				wantRead(t, packed(4, h, spelled(g, h, backs...)), want, err)
			}
		}
	}
}

func TestN3ReadRefusesReferencesThatAreNotThere(t *testing.T) {
	h := api.How{Back: 2, K: 1}
	for node := range 4 {
		before := strings.Repeat("11", node)
		wantRead(t, packed(node+1, h, before+"11"), sample.Full(node+1, 0), api.OK)
		for _, back := range []uint64{1, 2, 3, 4, 5, 8, 100, 1 << 20, api.MaxNum, api.MaxNum + 1, 1 << 62, math.MaxUint32} {
			wantRead(t, packed(node+1, h, before+sample.Gamma(back)+"1"), api.Graph{}, api.ErrForm)
		}
		wantRead(t, packed(node+1, h, before+strings.Repeat("0", 70)+"1"), api.Graph{}, api.ErrForm)
	}
	// The places before are more than Back, even though there are as many nodes before.
	for back := 1; back < 8; back++ {
		g := sample.Full(12, 0)
		g.Next[11-back], g.Next[11] = []int{0, 3, 6, 9}, []int{0, 3, 6, 9, 10}
		text, backs, _ := sample.Pack(g, api.How{Back: back, K: 1})
		if backs[11] != back {
			t.Fatalf("the best place before is %d", backs[11])
		}
		for less := 1; less < back; less++ {
			wantRead(t, packed(12, api.How{Back: less, K: 1}, text), api.Graph{}, api.ErrForm)
		}
	}
}

// The bits of each list are right, but there is no such graph.
func TestN3ReadRefusesWhatIsNoGraph(t *testing.T) {
	for _, h := range hows() {
		for _, n := range []int{1, 2, 5, nodes} {
			for _, bad := range []int{n, n + 1, nodes, api.MaxNode} {
				for _, at := range []int{0, n - 1} {
					g := sample.Full(n, 0)
					g.Next[at] = []int{0, bad}
					text, _, _ := sample.Pack(g, h)
					wantRead(t, packed(n, h, text), api.Graph{}, api.ErrForm)
				}
			}
		}
	}
	// One arc more than there may be.
	for _, h := range []api.How{{Back: 1, K: 1}, {Back: 3, Least: 2, K: 3}, {Least: 3, K: 2}} {
		g := sample.Full(nodes, 6)
		wantBoth(t, g, h)
		g.Next[nodes-1] = []int{0}
		text, _, _ := sample.Pack(g, h)
		if len(text) > api.MaxLen {
			t.Fatalf("the text has %d signs", len(text))
		}
		wantRead(t, packed(nodes, h, text), api.Graph{}, api.ErrForm)
		g = sample.Full(nodes, 1)
		g.Next[1] = sample.Steps(0, 1, api.MaxList)
		text, _, _ = sample.Pack(g, h)
		wantRead(t, packed(nodes, h, text), api.Graph{}, api.ErrForm)
	}
}

func TestN3ReadErrors(t *testing.T) {
	right := packed(2, api.How{Back: 1, K: 1}, "1111")
	wantRead(t, right, sample.Full(2, 0), api.OK)
	for _, n := range []int{math.MinInt, -1, nodes + 1, math.MaxInt} {
		for _, h := range append(sample.WrongHows(), right.How) {
			wantRead(t, api.Packed{N: n, How: h, Bits: right.Bits}, api.Graph{}, api.ErrRange)
			for _, w := range sample.WrongBits() {
				wantRead(t, api.Packed{N: n, How: h, Bits: w.Bits}, api.Graph{}, api.ErrRange)
			}
		}
	}
	for _, n := range []int{0, 2, nodes} {
		for _, h := range sample.WrongHows() {
			wantRead(t, api.Packed{N: n, How: h, Bits: right.Bits}, api.Graph{}, api.ErrRange)
			for _, w := range sample.WrongBits() {
				wantRead(t, api.Packed{N: n, How: h, Bits: w.Bits}, api.Graph{}, api.ErrRange)
			}
		}
		for _, h := range hows() {
			for _, w := range sample.WrongBits() {
				wantRead(t, api.Packed{N: n, How: h, Bits: w.Bits}, api.Graph{}, w.Err)
			}
		}
	}
}

// At the edges of what is allowed: no node, and as many as there may be.
func TestN3ReadAtTheEdges(t *testing.T) {
	for _, h := range sample.Hows() {
		code := "1"
		if h.Back > 0 {
			code = "11"
		}
		for _, n := range []int{0, 1, nodes} {
			text := strings.Repeat(code, n)
			wantRead(t, packed(n, h, text), sample.Full(n, 0), api.OK)
			wantRead(t, packed(n, h, text+"1"), api.Graph{}, api.ErrForm)
		}
		wantRead(t, packed(nodes+1, h, strings.Repeat(code, nodes+1)), api.Graph{}, api.ErrRange)
		wantRead(t, packed(0, h, strings.Repeat("1", api.MaxLen)), api.Graph{}, api.ErrForm)
		wantRead(t, packed(nodes, h, strings.Repeat("0", api.MaxLen)), api.Graph{}, api.ErrForm)
	}
}
