package sample

import (
	"slices"
	"testing"
)

func TestMemory(t *testing.T) {
	for _, list := range [][]int{nil, {}, {3, 1, 4}} {
		m := Around(list, 7)
		if m.Changed() || !slices.Equal(m.List, list) {
			t.Fatalf("Around %v: %v", list, m)
		}
		_ = append(m.List, 8)
		if !m.Changed() {
			t.Error("a change behind the length is not noticed")
		}
	}
	m := Around([]uint64{5}, 5)
	m.List[0]++
	if !m.Changed() {
		t.Error("a change is not noticed")
	}
}

func TestGuard(t *testing.T) {
	g := Guarded("0110")
	if g.Changed() || !Same(g.Bits, "0110") {
		t.Fatalf("Guarded: %v", g)
	}
	Scribble(g.Bits)
	if !g.Changed() {
		t.Error("a change is not noticed")
	}
	g = Guarded("")
	_ = append(g.Bits.Bytes, 0)
	if !g.Changed() {
		t.Error("a change behind the length is not noticed")
	}
}

func TestFlip(t *testing.T) {
	memory := []int{0, 5, -1, 9}
	Flip(memory[:1:3])
	if !slices.Equal(memory, []int{-1, -6, 0, 9}) {
		t.Errorf("Flip: %v", memory)
	}
}
