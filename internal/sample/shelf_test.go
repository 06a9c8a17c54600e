package sample

import (
	"testing"

	"lampwright/api"
)

func TestShelf(t *testing.T) {
	h := api.How{Back: 2, K: 1}
	g := Graph([]int{0, 1}, []int{0, 1}, []int{0, 1}, nil)
	text := "1" + "011" + "1" + "1" + "010" + "011" + "1" + "010" + "011" + "1" + "1" + "1"
	// 4 * 4 is at most 22 + 1, and the nodes begin at 0, 6, 13 and 20.
	starts := api.Fano{N: 4, Top: 22, Width: 2, Low: Bits("00" + "10" + "01" + "00"), High: Bits("10" + "10" + "0" + "10" + "0" + "10")}
	want := api.Shelf{Packed: api.Packed{N: 4, How: h, Bits: Bits(text)}, Starts: starts}
	if got := Shelf(g, h); !SameShelf(got, want) {
		t.Errorf("Shelf: %v, must be %v", got, want)
	}
}

func TestSameShelf(t *testing.T) {
	h := api.How{Back: 1, K: 1}
	s := Shelf(Graph([]int{0}, nil), h)
	if !SameShelf(s, Shelf(Graph([]int{0}, nil), h)) {
		t.Error("SameShelf tells a shelf from itself")
	}
	for i, change := range []func(s *api.Shelf){
		func(s *api.Shelf) { s.Packed.N++ },
		func(s *api.Shelf) { s.Packed.How.Back++ },
		func(s *api.Shelf) { s.Packed.How.Least = 2 },
		func(s *api.Shelf) { s.Packed.How.K++ },
		func(s *api.Shelf) { s.Packed.Bits = Bits("0") },
		func(s *api.Shelf) { s.Packed.Bits.Len-- },
		func(s *api.Shelf) { s.Starts.Top++ },
	} {
		other := s
		change(&other)
		if SameShelf(s, other) || SameShelf(other, s) {
			t.Errorf("change %d is not noticed", i)
		}
	}
}

func TestLong(t *testing.T) {
	for _, zeros := range []int{0, 9, 100} {
		g := Long(zeros)
		text, _, _ := Pack(g, api.How{K: 16})
		if !holds(g) || len(text) != 8201-zeros {
			t.Errorf("Long of %d has %d signs, or it is not right", zeros, len(text))
		}
	}
}
