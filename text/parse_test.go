package text_test

import (
	"regexp"
	"slices"
	"strconv"
	"strings"
	"testing"

	"lampwright/api"
	"lampwright/internal/sample"
	"lampwright/text"
)

// wantParsed fails unless the text is that of a graph.
func wantParsed(t *testing.T, s string, g api.Graph) {
	t.Helper()
	wantParse(t, s, g, api.Fault{})
}

// wantFault fails unless the text has this fault.
func wantFault(t *testing.T, s string, line int, err api.Errno) {
	t.Helper()
	wantParse(t, s, api.Graph{}, api.Fault{Line: line, Err: err})
}

func wantParse(t *testing.T, s string, g api.Graph, fault api.Fault) {
	t.Helper()
	if got, gotFault := text.Parse(s); !sample.SameGraph(got, g) || gotFault != fault {
		t.Errorf("Parse of %d bytes, %.80q: %.200q %v, must be %.200q %v", len(s), s, spelled(got), gotFault, spelled(g), fault)
	}
}

// oracle has the patterns that the lines of a text are held against.
type oracle struct{ ignored, nodes, arc *regexp.Regexp }

func newOracle() oracle {
	return oracle{
		ignored: regexp.MustCompile(`^ *(#|$)`),
		nodes:   regexp.MustCompile(`^ *([0-9]{1,6}) *$`),
		arc:     regexp.MustCompile(`^ *([0-9]{1,6}) +([0-9]{1,6}) *$`),
	}
}

// want fails unless the text, which is short, has the graph or the fault that R2 says.
func (o oracle) want(t *testing.T, s string) {
	t.Helper()
	lines := strings.Split(s, "\n")
	// What follows the last line feed is a line only if it is something.
	if lines[len(lines)-1] == "" {
		lines = lines[:len(lines)-1]
	}
	g, known := api.Graph{}, false
	for i, line := range lines {
		err := api.OK
		switch {
		case o.ignored.MatchString(line):
			continue
		case known:
			err = o.addArc(g, line)
		default:
			g, err = o.full(line)
			known = true
		}
		if err != api.OK {
			wantFault(t, s, i+1, err)
			return
		}
	}
	if known {
		wantParsed(t, s, g)
	} else {
		wantFault(t, s, 0, api.ErrNone)
	}
}

// full returns a graph with as many nodes as the line says, and no arcs.
func (o oracle) full(line string) (api.Graph, api.Errno) {
	words := o.nodes.FindStringSubmatch(line)
	if words == nil {
		return api.Graph{}, api.ErrForm
	}
	n, _ := strconv.Atoi(words[1])
	if n > nodes {
		return api.Graph{}, api.ErrRange
	}
	return sample.Full(n, 0), api.OK
}

// addArc adds the arc of the line to the graph.
func (o oracle) addArc(g api.Graph, line string) api.Errno {
	words := o.arc.FindStringSubmatch(line)
	if words == nil {
		return api.ErrForm
	}
	from, _ := strconv.Atoi(words[1])
	to, _ := strconv.Atoi(words[2])
	if max(from, to) >= len(g.Next) {
		return api.ErrRange
	}
	if slices.Contains(g.Next[from], to) {
		return api.ErrTwice
	}
	g.Next[from] = append(g.Next[from], to)
	slices.Sort(g.Next[from])
	return api.OK
}

func TestR2ByHand(t *testing.T) {
	two := sample.Graph(nil, nil)
	forth, back := sample.Graph([]int{1}, nil), sample.Graph(nil, []int{0})
	for s, g := range map[string]api.Graph{
		"0":                            {},
		"0\n":                          {},
		"00000":                        {},
		"000000":                       {},
		"2":                            two,
		"2\n":                          two,
		"\n\n2":                        two,
		"  2   ":                       two,
		"2\n\n\n":                      two,
		"2\n#":                         two,
		"#\n2":                         two,
		"000002\n":                     two,
		"2\n0 1":                       forth,
		"2\n0 1\n":                     forth,
		"2\n   0    1    \n":           forth,
		"2\n00 000001\n":               forth,
		"# 3\n2\n #0 0\n0 1\n##\n":     forth,
		"   # 3\n2\n#0 0 0 0\n0 1":     forth,
		"\n \n  \n2\n  \n1 0\n \n":     back,
		"#\r\n2\n1 0\n#\xff\x00\t\v":   back,
		"2\n1 1\n1 0\n0 1\n0 0":        sample.Graph([]int{0, 1}, []int{0, 1}),
		"3\n2 0\n0 2\n2 2\n0 1\n# 1 1": sample.Graph([]int{1, 2}, nil, []int{0, 2}),
	} {
		wantParsed(t, s, g)
	}
}

func TestR2FaultsByHand(t *testing.T) {
	for _, c := range []struct {
		s    string
		line int
		err  api.Errno
	}{
		{"", 0, api.ErrNone},
		{"\n", 0, api.ErrNone},
		{" ", 0, api.ErrNone},
		{"#", 0, api.ErrNone},
		{"# 2\n   \n #2", 0, api.ErrNone},
		{"2 3", 1, api.ErrForm},
		{"0 1\n2", 1, api.ErrForm},
		{"2 #", 1, api.ErrForm},
		{"2#", 1, api.ErrForm},
		{"x", 1, api.ErrForm},
		{"-1", 1, api.ErrForm},
		{"+1", 1, api.ErrForm},
		{"1.0", 1, api.ErrForm},
		{"0000002", 1, api.ErrForm},
		{"1000000", 1, api.ErrForm},
		{"99999999999999999999", 1, api.ErrForm},
		{"101", 1, api.ErrRange},
		{"999999", 1, api.ErrRange},
		{"\n\n#\n101\n0", 4, api.ErrRange},
		{"2\n0", 2, api.ErrForm},
		{"2\n2", 2, api.ErrForm},
		{"2\n0 1 0", 2, api.ErrForm},
		{"2\n0 1 #", 2, api.ErrForm},
		{"2\n0 #", 2, api.ErrForm},
		{"2\n0 1#", 2, api.ErrForm},
		{"2\n0 0000001", 2, api.ErrForm},
		{"2\n0000000 1", 2, api.ErrForm},
		{"2\n0 -1", 2, api.ErrForm},
		{"2\n\n0,1", 3, api.ErrForm},
		{"2\n0 2", 2, api.ErrRange},
		{"2\n2 0", 2, api.ErrRange},
		{"2\n999999 999999", 2, api.ErrRange},
		{"0\n\n0 0", 3, api.ErrRange},
		{"2\n0 1\n0 1", 3, api.ErrTwice},
		{"2\n0 1\n#\n1 0\n\n 00 01 ", 6, api.ErrTwice},
		// The first line with a fault determines it.
		{"2\n0 1\n0 1\n0 2\n0", 3, api.ErrTwice},
		{"2\n0 1\n0 2\n0 1\n0", 3, api.ErrRange},
		{"2\n0 1\n0\n0 1\n0 2", 3, api.ErrForm},
		{"2 2\n101", 1, api.ErrForm},
		{"101\n2 2 2", 1, api.ErrRange},
		// Of the faults of a line, the first one determines it: a word that is not a number is not outside.
		{"2\n9 x", 2, api.ErrForm},
		{"2\nx 9", 2, api.ErrForm},
		{"2\n9 9 9", 2, api.ErrForm},
		{"2\n9", 2, api.ErrForm},
		{"101 101", 1, api.ErrForm},
	} {
		wantFault(t, c.s, c.line, c.err)
	}
}

// sequences calls visit for all sequences of at most many parts.
func sequences(parts []string, many int, visit func(s string)) {
	all := []string{""}
	for range many + 1 {
		var longer []string
		for _, s := range all {
			visit(s)
			for _, part := range parts {
				longer = append(longer, s+part)
			}
		}
		all = longer
	}
}

func TestR2OfEachShortText(t *testing.T) {
	o := newOracle()
	sequences(strings.Split("01 \n#", ""), 7, func(s string) { o.want(t, s) })
	sequences(strings.Split("09x\n -", ""), 6, func(s string) { o.want(t, "1\n"+s) })
}

func TestR2OfEachFewLines(t *testing.T) {
	o := newOracle()
	lines := []string{"\n", " \n", "#\n", " # 1\n", "0\n", "1\n", " 2 \n", "2 #\n", "0 0\n", "0 1\n", "1 0\n", " 00  001 \n", "0 2\n", "x\n", "0 x\n", "0 0 0\n", "100\n", "101\n", "0000001\n"}
	sequences(lines, 3, func(s string) {
		o.want(t, s)
		o.want(t, "2\n"+s)
		o.want(t, s+"0 1")
		o.want(t, strings.TrimSuffix(s, "\n"))
	})
	sequences([]string{"0 0\n", "0 1\n", "1 0\n", "1 1\n", "0 2\n", "#0 0\n"}, 5, func(s string) { o.want(t, "2\n"+s) })
}

// No other byte than a blank separates words, none but a digit is part of a number, and none but # begins what is ignored. Neither is a sign of several bytes one of these, even if it is a space or a digit of another script.
func TestR2OfEachByte(t *testing.T) {
	o := newOracle()
	var signs []string
	for n := range 256 {
		signs = append(signs, string([]byte{byte(n)}))
	}
	signs = append(signs, "\u00a0", "\u0085", "\u2003", "\u2028", "\u3000", "\ufeff", "\u0661", "\u0967", "\uff11", "\uff03", "\U0001d7d8", "\xc3\x28", "\r\n", "\n\r", " \t", "0x", "1e", "_0", "+0")
	for _, sign := range signs {
		for _, s := range []string{"", sign, sign + "2", "2" + sign, "2" + sign + "\n", sign + "\n2", "2\n" + sign, "2\n0" + sign + "1", "2\n0 " + sign + "1", "2\n0 1" + sign, "2\n" + sign + "0 1", "2\n" + sign + " 0 1", "2\n0 1 " + sign, "2\n0" + sign + " 1\n", "2\n0 1\n" + sign + "\n1 1"} {
			o.want(t, s)
		}
	}
}

func TestR2NumbersOfDigits(t *testing.T) {
	for many := 1; many < 30; many++ {
		zeros := strings.Repeat("0", many-1)
		for _, c := range []struct {
			s    string
			line int
			g    api.Graph
		}{{zeros + "3", 1, sample.Full(3, 0)}, {"3\n" + zeros + "1 2", 2, sample.Graph(nil, []int{2}, nil)}, {"3\n1 " + zeros + "2", 2, sample.Graph(nil, []int{2}, nil)}} {
			if many <= 6 {
				wantParsed(t, c.s, c.g)
			} else {
				wantFault(t, c.s, c.line, api.ErrForm)
			}
		}
		err := api.ErrForm
		if many <= 6 {
			err = api.ErrRange
		}
		if many >= 3 {
			wantFault(t, strings.Repeat("9", many), 1, err)
			wantFault(t, "100\n0 "+strings.Repeat("9", many), 2, err)
			wantFault(t, "100\n"+strings.Repeat("9", many)+" 0", 2, err)
		}
	}
}
