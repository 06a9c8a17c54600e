package sample

import (
	"testing"

	"lampwright/api"
)

func TestFano(t *testing.T) {
	for _, c := range []struct {
		l         []int
		top       int
		width     int
		low, high string
	}{
		{nil, 0, 0, "", "0"},
		{nil, 3, 0, "", "0000"},
		{[]int{0}, 0, 0, "", "10"},
		{[]int{0, 1, 1}, 1, 0, "", "10110"},
		{[]int{1, 1, 5, 12}, 15, 2, "01010100", "11010010"},
		{[]int{1, 1, 5, 12}, 14, 1, "1110", "110010000100"},
		{[]int{3}, 3, 2, "11", "10"},
		{[]int{3}, 4, 2, "11", "100"},
		{[]int{api.MaxNode}, api.MaxNode, 20, "00000000000000000000", "010"},
	} {
		want := api.Fano{N: len(c.l), Top: c.top, Width: c.width, Low: Bits(c.low), High: Bits(c.high)}
		if got := Fano(c.l, c.top); !SameFano(got, want) {
			t.Errorf("Fano of %v, %d: %v, must be %v", c.l, c.top, got, want)
		}
	}
}

func TestSameFano(t *testing.T) {
	f := Fano([]int{1, 1, 5, 12}, 15)
	if !SameFano(f, Fano([]int{1, 1, 5, 12}, 15)) || !SameFano(api.Fano{}, api.Fano{Low: api.Bits{Bytes: []byte{}}}) {
		t.Error("SameFano tells a list from itself")
	}
	for i, change := range []func(f *api.Fano){
		func(f *api.Fano) { f.N++ },
		func(f *api.Fano) { f.Top++ },
		func(f *api.Fano) { f.Width++ },
		func(f *api.Fano) { f.Low = Bits("01010101") },
		func(f *api.Fano) { f.Low.Len-- },
		func(f *api.Fano) { f.High = Bits("11010011") },
		func(f *api.Fano) { f.High = Bits("110100100") },
	} {
		other := f
		change(&other)
		if SameFano(f, other) || SameFano(other, f) {
			t.Errorf("change %d is not noticed", i)
		}
	}
}
