package sample

import (
	"bytes"
	"slices"
	"testing"
)

func TestBits(t *testing.T) {
	b := Bits("011000001")
	if b.Len != 9 || !bytes.Equal(b.Bytes, []byte{0x60, 0x80}) {
		t.Errorf("Bits: %v", b)
	}
	if !Same(b, "011000001") || Same(b, "01100000") || Same(b, "011000000") {
		t.Error("Same does not tell the texts apart")
	}
}

func TestTexts(t *testing.T) {
	if got := Texts(2); !slices.Equal(got, []string{"", "0", "1", "00", "01", "10", "11"}) {
		t.Errorf("Texts: %q", got)
	}
	if got := Mixed(8); got != "01101001" {
		t.Errorf("Mixed: %q", got)
	}
}

func TestGuard(t *testing.T) {
	g := Guarded("0110")
	if g.Changed() || !Same(g.Bits, "0110") {
		t.Fatalf("Guarded: %v", g)
	}
	Scribble(g.Bits)
	if !g.Changed() {
		t.Error("a change is not noticed")
	}
	g = Guarded("")
	_ = append(g.Bits.Bytes, 0)
	if !g.Changed() {
		t.Error("a change behind the length is not noticed")
	}
}
