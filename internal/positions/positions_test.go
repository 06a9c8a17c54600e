package positions_test

import (
	"slices"
	"testing"

	"lampwright/internal/positions"
	"lampwright/internal/sample"
)

func TestOf(t *testing.T) {
	for _, text := range append(sample.Texts(6), sample.Mixed(70)) {
		for bit := range uint64(2) {
			for from := range len(text) + 1 {
				for to := range len(text) + 1 {
					var want []int
					for at := from; at < to; at++ {
						if text[at] == '0'+byte(bit) {
							want = append(want, at)
						}
					}
					if got := slices.Collect(positions.Of(sample.Bits(text), bit, from, to)); !slices.Equal(got, want) {
						t.Errorf("Of %q, %d, %d, %d: %v, must be %v", text, bit, from, to, got, want)
					}
				}
			}
		}
	}
}

func TestOfIsNoPositionBeyondTheEnd(t *testing.T) {
	for bit := range uint64(2) {
		for at := range positions.Of(sample.Bits("01"), bit, -2, 9) {
			if at < 0 || at > 1 {
				t.Errorf("there is a bit at %d", at)
			}
		}
	}
}

func TestOfCanBeLeft(t *testing.T) {
	visited := 0
	for at := range positions.Of(sample.Bits("00110111"), 1, 0, 8) {
		visited++
		if at == 3 {
			break
		}
	}
	if visited != 2 {
		t.Errorf("%d positions up to the second one", visited)
	}
}
