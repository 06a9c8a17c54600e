package load_test

import (
	"bytes"
	"math"
	"slices"
	"testing"

	"lampwright/api"
	"lampwright/internal/sample"
	"lampwright/load"
)

func TestS2ErrManyAtTheEdge(t *testing.T) {
	for _, b := range append(someFiles(), nil, []byte{1, 2, 3}) {
		// No file is as long, so that bytes behind its end make it wrong.
		wantRefused(t, append(bytes.Clone(b), make([]byte, api.MaxBytes-len(b))...))
		for _, more := range []int{1, 2, api.MaxBytes} {
			long := append(bytes.Clone(b), make([]byte, api.MaxBytes-len(b)+more)...)
			wantCost(t, long, api.Quota{}, api.ErrMany)
			wantLoad(t, long, huge(), api.Graph{}, 0, api.ErrMany)
		}
	}
}

// sequences calls visit for all lists of at most many of these bytes.
func sequences(some []byte, many int, visit func(b []byte)) {
	all := [][]byte{nil}
	for range many + 1 {
		var longer [][]byte
		for _, b := range all {
			visit(b)
			for _, n := range some {
				longer = append(longer, append(slices.Clip(b), n))
			}
		}
		all = longer
	}
}

// gapsFiles returns the files of all graphs with at most 3 nodes.
func gapsFiles() map[string]api.Graph {
	files := map[string]api.Graph{}
	for n := range 4 {
		for _, g := range sample.Graphs(n) {
			files[string(sample.GapsFile(g))] = g
		}
	}
	return files
}

// Of all short files whose graph has at most 3 nodes, exactly those are read that are the file of one.
func TestS2S3GapsOfEachShortFile(t *testing.T) {
	files := gapsFiles()
	read := 0
	visit := func(b []byte) {
		if len(b) > 0 && 3 < b[0] && b[0] < 128 {
			return
		}
		b = append([]byte{76, 87, api.KindGaps}, b...)
		if g, ok := files[string(b)]; ok {
			wantRead(t, b, g, len(b)-3)
			read++
		} else {
			wantRefused(t, b)
		}
	}
	sequences([]byte{0, 1, 2, 3}, 8, visit)
	sequences([]byte{0, 1, 2, 3, 4, 5, 128, 129, 255}, 5, visit)
	if read < 100 {
		t.Errorf("%d files are read", read)
	}
}

// Of all files that differ in one byte from that of a graph with at most 3 nodes, exactly those are read that are the file of one.
func TestS2S3GapsOfChangedFiles(t *testing.T) {
	files := gapsFiles()
	for file := range files {
		for at := range len(file) {
			for n := range 256 {
				b := []byte(file)
				b[at] = byte(n)
				if g, ok := files[string(b)]; ok {
					wantRead(t, b, g, len(b)-3)
				} else {
					wantRefused(t, b)
				}
			}
		}
	}
}

// gapsOf returns a file of KindGaps with these numbers, whatever they are.
func gapsOf(numbers ...uint64) []byte {
	return append([]byte{76, 87, api.KindGaps}, sample.Varints(numbers...)...)
}

func TestS2GapsOfNumbersThatMayNotBeThere(t *testing.T) {
	wantRead(t, gapsOf(0), api.Graph{}, 1)
	wantRead(t, gapsOf(2, 1, 2, 0), sample.Graph([]int{1}, nil), 4)
	for _, n := range append(sample.GreatNumbers(), 128, 300, 1<<16, 1<<20, 1<<21+1, 1<<31, 1<<32, 1<<32+1, 1<<32+2, 1<<63+1, 1<<63+2) {
		// As the number of nodes, that of arcs, and a gap.
		wantRefused(t, gapsOf(n))
		wantRefused(t, gapsOf(n, 0, 0))
		wantRefused(t, gapsOf(n, 1, 2, 0))
		wantRefused(t, gapsOf(2, n))
		wantRefused(t, gapsOf(2, n, 2, 0))
		wantRefused(t, gapsOf(2, 1, 2, n))
		wantRefused(t, gapsOf(2, 1, n, 0))
		wantRefused(t, gapsOf(2, 2, 0, n, 0))
		wantRefused(t, gapsOf(2, 0, 1, n))
		wantRefused(t, gapsOf(2, 0, 2, 1, n))
	}
}

// The first gap can be that of any node, and of none before the first one or after the last one.
func TestS2GapsOfFirstElements(t *testing.T) {
	for _, n := range []int{1, 2, 50, nodes} {
		for _, node := range []int{0, n / 2, n - 1} {
			for element := -3; element < n+3; element++ {
				g := sample.Full(n, 0)
				g.Next[node] = []int{element}
				b := sample.GapsFile(g)
				if 0 <= element && element < n {
					wantRead(t, b, g, n+2)
				} else {
					wantRefused(t, b)
				}
			}
		}
	}
}

func TestS2GapsOfWrongGraphs(t *testing.T) {
	for n := nodes - 2; n < nodes+30; n++ {
		g := sample.Full(n, 0)
		if n > nodes {
			wantRefused(t, sample.GapsFile(g))
		} else {
			wantRead(t, sample.GapsFile(g), g, n+1)
		}
	}
	for many := most - 3; many < most+3; many++ {
		g := sample.Full(nodes, many/nodes)
		g.Next[nodes-1] = sample.Steps(0, 1, many%nodes)
		if many > most {
			wantRefused(t, sample.GapsFile(g))
		} else {
			wantRead(t, sample.GapsFile(g), g, 1+nodes+many)
		}
	}
	for _, n := range []int{1, 5, nodes} {
		for _, last := range []int{n, n + 1, api.MaxNode} {
			g := sample.Full(n, 1)
			g.Next[n-1] = []int{0, last}
			wantRefused(t, sample.GapsFile(g))
		}
		for _, many := range []int{n + 1, api.MaxList, api.MaxList + 1} {
			g := sample.Full(n, 0)
			g.Next[0] = sample.Steps(0, 1, many)
			wantRefused(t, sample.GapsFile(g))
		}
	}
}

// padded returns all files in which one byte is written as two that mean the same number.
func padded(b []byte, from, to int) [][]byte {
	var all [][]byte
	for at := from; at < to; at++ {
		if b[at] < 128 {
			all = append(all, slices.Concat(b[:at], []byte{b[at] + 128, 0}, b[at+1:]), slices.Concat(b[:at], []byte{b[at] + 128, 128, 0}, b[at+1:]))
		}
	}
	return all
}

// headEnd returns the position after the numbers of a file.
func headEnd(b []byte) int {
	if b[2] == api.KindGaps {
		return len(b)
	}
	at := 3
	for range 5 {
		for b[at] >= 128 {
			at++
		}
		at++
	}
	return at
}

func TestS2RefusesNumbersThatAreNotAsShortAsPossible(t *testing.T) {
	for _, b := range someFiles() {
		for _, other := range padded(b, 3, headEnd(b)) {
			wantRefused(t, other)
		}
	}
}

func TestS2RefusesAnotherBeginning(t *testing.T) {
	for _, b := range someFiles() {
		for at := range 3 {
			for n := range 256 {
				if other := bytes.Clone(b); byte(n) != b[at] {
					other[at] = byte(n)
					wantRefused(t, other)
				}
			}
		}
		wantRefused(t, b[1:])
		wantRefused(t, b[2:])
		wantRefused(t, b[3:])
		wantRefused(t, append([]byte{76}, b...))
		wantRefused(t, append([]byte("LW"), b...))
		wantRefused(t, append([]byte("lw"), b[2:]...))
		wantRefused(t, append([]byte("WL"), b[2:]...))
	}
}

func TestS2RefusesAnotherEnd(t *testing.T) {
	for _, b := range someFiles() {
		for end := range b {
			wantRefused(t, b[:end])
		}
		for _, more := range []string{"\x00", "\x01", "\x80", "\xff", "\x00\x00", "LW\x01\x00"} {
			wantRefused(t, append(bytes.Clone(b), more...))
		}
		wantRefused(t, append(bytes.Clone(b), b...))
	}
}

// Of all files of KindBits with a short text, exactly those are read that are the file of a graph.
func TestS2S3BitsOfEachShortText(t *testing.T) {
	for n := range 3 {
		for _, h := range hows() {
			files := map[string]api.Graph{}
			for _, g := range sample.Graphs(n) {
				files[string(sample.BitsFile(g, h))] = g
			}
			for _, text := range sample.Texts(10) {
				b := sample.TextFile(n, h, text)
				if g, ok := files[string(b)]; ok {
					wantRead(t, b, g, len(text))
				} else {
					wantRefused(t, b)
				}
			}
		}
	}
}

// bitsOf returns a file of KindBits with these numbers, whatever they are, and these bytes.
func bitsOf(n, back, least, k, long uint64, end ...byte) []byte {
	head := sample.Varints(n, back, least, k, long)
	return slices.Concat([]byte{76, 87, api.KindBits}, head, end)
}

// A file in which one byte is another one is refused, or it is that of another graph or way of encoding.
func TestS2S3BitsOfChangedFiles(t *testing.T) {
	for _, g := range append(sample.Graphs(2), sample.Graphs(1)...) {
		for _, h := range hows() {
			file := sample.BitsFile(g, h)
			for at := 3; at < len(file); at++ {
				for n := range 256 {
					b := bytes.Clone(file)
					b[at] = byte(n)
					wantChanged(t, b)
				}
			}
		}
	}
}

// wantChanged fails unless the file, whose numbers need one byte each if it is right, is read if and only if it is that of a graph.
func wantChanged(t *testing.T, b []byte) {
	t.Helper()
	h := api.How{Back: int(b[4]), Least: int(b[5]), K: int(b[6])}
	right := b[3] < 128 && b[7] < 128 && h.Back < 8 && (h.Least == 0 || 2 <= h.Least && h.Least < 128) && 1 <= h.K && h.K <= 16
	if right && b[3] < 3 {
		for _, g := range sample.Graphs(int(b[3])) {
			if bytes.Equal(sample.BitsFile(g, h), b) {
				wantRead(t, b, g, int(b[7]))
				return
			}
		}
	}
	g, steps, err := load.Load(b, huge())
	if err == api.OK && right && len(g.Next) > 2 && bytes.Equal(sample.BitsFile(g, h), b) {
		wantRead(t, b, g, steps)
		return
	}
	wantRefused(t, b)
}

func TestS2BitsOfNumbersThatMayNotBeThere(t *testing.T) {
	wantRead(t, bitsOf(1, 0, 0, 1, 1, 128), sample.Graph(nil), 1)
	wantRead(t, bitsOf(1, 7, 300, 16, 2, 192), sample.Graph(nil), 2)
	for _, n := range append(sample.GreatNumbers(), 301, 1<<13+1, 1<<16, 1<<16+1, 1<<32, 1<<32+1, 1<<32+2, 1<<63+1) {
		wantRefused(t, bitsOf(n, 0, 0, 1, 1, 128))
		wantRefused(t, bitsOf(n, 0, 0, 1, 0))
		wantRefused(t, bitsOf(1, n, 0, 1, 1, 128))
		wantRefused(t, bitsOf(1, n, 0, 1, 2, 192))
		wantRefused(t, bitsOf(1, 0, n, 1, 1, 128))
		wantRefused(t, bitsOf(1, 0, 0, n, 1, 128))
		wantRefused(t, bitsOf(1, 0, 0, 1, n, 128))
		wantRefused(t, bitsOf(0, 0, 0, 1, n))
	}
	for back := range uint64(20) {
		b := bitsOf(1, back, 0, 1, 2, 192)
		if 1 <= back && back <= api.MaxBack {
			wantRead(t, b, sample.Graph(nil), 2)
		} else {
			wantRefused(t, b)
		}
	}
	for least := range uint64(310) {
		b := bitsOf(1, 0, least, 1, 1, 128)
		if least == 0 || 2 <= least && least <= api.MaxList {
			wantRead(t, b, sample.Graph(nil), 1)
		} else {
			wantRefused(t, b)
		}
	}
	for k := range uint64(40) {
		b := bitsOf(1, 0, 0, k, 1, 128)
		if 1 <= k && k <= 16 {
			wantRead(t, b, sample.Graph(nil), 1)
		} else {
			wantRefused(t, b)
		}
	}
}

// The number of bits is that of the graph, and the bytes are as many as it needs, with nothing after the last bit.
func TestS2BitsOfAnotherNumberOfBits(t *testing.T) {
	for n := range nodes + 2 {
		bits := bytes.Repeat([]byte{0xff}, n/8)
		if n%8 != 0 {
			bits = append(bits, 0xff<<(8-n%8))
		}
		for long := max(n-9, 0); long < n+9; long++ {
			b := bitsOf(uint64(n), 0, 0, 1, uint64(long), bits...)
			if long == n && n <= nodes {
				wantRead(t, b, sample.Full(n, 0), n)
			} else {
				wantRefused(t, b)
			}
		}
		if n%8 != 0 {
			for bit := range 8 - n%8 {
				stray := bytes.Clone(bits)
				stray[len(stray)-1] |= 1 << bit
				wantRefused(t, bitsOf(uint64(n), 0, 0, 1, uint64(n), stray...))
			}
		}
		wantRefused(t, bitsOf(uint64(n), 0, 0, 1, uint64(n), append(bits, 0)...))
	}
}

// As many bits as there may be, and a number of bits that is 1 greater.
func TestS2BitsAtTheEdge(t *testing.T) {
	g, h := sample.Long(9), api.How{K: 16}
	text, _, _ := sample.Pack(g, h)
	if len(text) != api.MaxLen {
		t.Fatalf("the text has %d signs", len(text))
	}
	wantRead(t, sample.TextFile(nodes, h, text), g, api.MaxLen)
	wantRefused(t, sample.TextFile(nodes, h, text+"0"))
	wantRefused(t, bitsOf(nodes, 0, 0, 16, math.MaxUint64, sample.Bits(text).Bytes...))
}

// Other bits than those that pack.Write returns can tell a graph, but their file is refused.
func TestS2BitsOfOtherReferences(t *testing.T) {
	g, h := sample.Graph([]int{0, 1}, []int{0, 1}), api.How{Back: 1, K: 1}
	alone, told := sample.PackNode(g, 1, 0, h), sample.PackNode(g, 1, 1, h)
	first := sample.PackNode(g, 0, 0, h)
	wantRead(t, sample.TextFile(2, h, first+told), g, len(first+told))
	wantRefused(t, sample.TextFile(2, h, first+alone))
}
