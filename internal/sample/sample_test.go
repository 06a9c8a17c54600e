package sample

import (
	"bytes"
	"slices"
	"testing"
)

func TestBits(t *testing.T) {
	b := Bits("011000001")
	if b.Len != 9 || !bytes.Equal(b.Bytes, []byte{0x60, 0x80}) {
		t.Errorf("Bits: %v", b)
	}
	if !Same(b, "011000001") || Same(b, "01100000") || Same(b, "011000000") {
		t.Error("Same does not tell the texts apart")
	}
}

func TestTexts(t *testing.T) {
	if got := Texts(2); !slices.Equal(got, []string{"", "0", "1", "00", "01", "10", "11"}) {
		t.Errorf("Texts: %q", got)
	}
	if got := Mixed(8); got != "01101001" {
		t.Errorf("Mixed: %q", got)
	}
}
