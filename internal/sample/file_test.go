package sample

import (
	"bytes"
	"math"
	"testing"

	"lampwright/api"
)

func TestVarint(t *testing.T) {
	for n, want := range map[uint64][]byte{0: {0}, 127: {127}, 128: {128, 1}, 300: {172, 2}, math.MaxUint64: {255, 255, 255, 255, 255, 255, 255, 255, 255, 1}} {
		if got := Varint(n); !bytes.Equal(got, want) {
			t.Errorf("Varint of %d: %v, must be %v", n, got, want)
		}
	}
	if got := Varints(300, 0, 5); !bytes.Equal(got, []byte{172, 2, 0, 5}) || len(Varints()) != 0 {
		t.Errorf("Varints: %v", got)
	}
}

func TestFiles(t *testing.T) {
	g := Graph([]int{1, 2}, nil, []int{0, 1})
	if got := GapsFile(g); !bytes.Equal(got, []byte{76, 87, 1, 3, 2, 2, 0, 0, 2, 3, 0}) {
		t.Errorf("GapsFile: %v", got)
	}
	if got := GapsFile(api.Graph{}); !bytes.Equal(got, []byte{76, 87, 1, 0}) {
		t.Errorf("GapsFile: %v", got)
	}
	h := api.How{Back: 1, Least: 300, K: 1}
	if got := TextFile(2, h, "101000001"); !bytes.Equal(got, []byte{76, 87, 2, 2, 1, 172, 2, 1, 9, 0b10100000, 0b10000000}) {
		t.Errorf("TextFile: %v", got)
	}
	if got := BitsFile(Graph([]int{0}), api.How{K: 1}); !bytes.Equal(got, []byte{76, 87, 2, 1, 0, 0, 1, 4, 0b01010000}) {
		t.Errorf("BitsFile: %v", got)
	}
}
