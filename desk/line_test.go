package desk_test

import (
	"fmt"
	"regexp"
	"slices"
	"strings"
	"testing"

	"lampwright/api"
	"lampwright/desk"
	"lampwright/internal/sample"
)

// linePattern matches the lines that there are.
func linePattern() *regexp.Regexp {
	const number = ` (?:0|[1-9][0-9]{0,3})`
	const line = `\A(?:bits|order|threes|(?:nodes|list|part|core)N|(?:arc|drop|far|way)NN|howNNN)\z`
	return regexp.MustCompile(strings.ReplaceAll(line, "N", number))
}

// lines has each command, with numbers of one digit to four.
func lines() []string {
	return []string{"nodes 0", "nodes 99", "nodes 9999", "arc 0 1", "arc 10 9999", "drop 1 0", "drop 100 10", "how 0 0 1", "how 7 300 16", "how 9999 1000 9999", "bits", "list 0", "list 1234", "far 0 1", "far 5000 0", "way 1 0", "way 20 4", "part 1", "part 10", "order", "core 0", "core 9090", "threes"}
}

func smallDesk() api.Desk { return deskOf(sample.Graph([]int{1}, nil), plain) }

// wantForm fails unless the line has the error ErrForm if it does not match, and else not.
func wantForm(t *testing.T, pattern *regexp.Regexp, line string) {
	t.Helper()
	_, _, err := desk.Do(smallDesk(), line)
	if matches := pattern.MatchString(line); matches == (err == api.ErrForm) {
		t.Errorf("Do of %q: %d, but it matches: %t", line, err, matches)
	}
}

func TestX2X3ErrFormByHand(t *testing.T) {
	d := smallDesk()
	for _, line := range []string{"", " ", "  ", "0", "ok", "what", "bit", "bitss", "Bits", "BITS", "bits 1", "bits ", " bits", "bits\n", "bits\r", "\tbits", "nodes", "nodes ", "nodes  1", "nodes 1 ", "nodes\t1", "nodes 1 2", "nodes1", "nodes 01", "nodes 00", "nodes 0000", "nodes +1", "nodes -1", "nodes -0", "nodes 1.0", "nodes 1e1", "nodes 0x1", "nodes 1_0", "nodes 10000", "nodes 99999999999999999999", "nodes \u0661", "nodes x", "arc", "arc 0", "arc 0 1 2", "arc  0 1", "arc 0  1", "arc 0 1 ", "arc 0 01", "arc 00 1", "how 0 0", "how 0 0 1 1", "how 0 0 01", "how 0 0 1 ", "how 0 0 1 x y z", "order 0", "list", "list 0 0", "list x", "far 0", "way 0 1 0", "part", "core", "threes 3"} {
		wantError(t, d, line, api.ErrForm)
	}
	// It comes before the errors of a command.
	for _, line := range []string{"nodes 101 ", "nodes 10000", "arc 2 2 2", "arc 2 x", "arc 0 1 1", "drop 1 1 x", "drop 2 02", "how 8 1", "how 8 1 00", "list 2 ", "far 2 x", "way 1 0 0", "part 02", "core 2 2"} {
		wantError(t, d, line, api.ErrForm)
	}
}

// A line with one byte more, one less or another one, wherever it is, is one of these lines or not.
func TestX2X3ErrFormOfEachByte(t *testing.T) {
	pattern := linePattern()
	for _, line := range lines() {
		wantForm(t, pattern, line)
		for at := range len(line) + 1 {
			for b := range 256 {
				one := string([]byte{byte(b)})
				wantForm(t, pattern, line[:at]+one+line[at:])
				if at < len(line) {
					wantForm(t, pattern, line[:at]+one+line[at+1:])
				}
			}
			wantForm(t, pattern, line[:at])
			wantForm(t, pattern, line[at:])
		}
	}
}

// Each sequence of a few words is one of these lines or not.
func TestX2X3ErrFormOfEachSequence(t *testing.T) {
	pattern := linePattern()
	names := []string{"nodes", "arc", "drop", "how", "bits", "list", "far", "way", "part", "order", "core", "threes"}
	rest := []string{"0", "1", "12", "1000", "9999", "10000", "00", "01", "", "x", "-1", "bits"}
	for _, name := range append(names, "", "0", "what") {
		wantForm(t, pattern, name)
		for _, l := range slices.Concat(sample.Lists(1, len(rest)-1), sample.Lists(2, len(rest)-1), sample.Lists(3, len(rest)-1), sample.Lists(4, 4), sample.Lists(5, 2)) {
			line := name
			for _, i := range l {
				line += " " + rest[i]
			}
			wantForm(t, pattern, line)
		}
	}
}

// Each number from 0 to 9999 is one without leading zeros, and no other one is.
func TestX2X3Numbers(t *testing.T) {
	pattern := linePattern()
	for n := range 12000 {
		for _, spelling := range []string{"%d", "%02d", "%03d", "%04d", "%05d", "+%d", "-%d"} {
			wantForm(t, pattern, fmt.Sprintf("list "+spelling, n))
		}
	}
}

// The error of the desk comes before that of the line.
func TestX3CheckComesFirst(t *testing.T) {
	all := append(lines(), "", "what", "nodes 101")
	for _, w := range sample.WrongGraphs() {
		for _, h := range []api.How{plain, {}} {
			for _, line := range all[len(all)-8:] {
				wantError(t, deskOf(w.Graph, h), line, w.Err)
			}
		}
	}
	for _, h := range sample.WrongHows() {
		for _, line := range all {
			wantError(t, deskOf(sample.Graph([]int{1}, nil), h), line, api.ErrRange)
		}
	}
	for _, line := range all {
		wantError(t, deskOf(sample.Full(25, 25), plain), line, api.ErrMany)
		wantError(t, deskOf(sample.Graph([]int{0, 0}), api.How{}), line, api.ErrState)
		wantError(t, api.Desk{}, line, api.ErrRange)
	}
}
