package spell_test

import (
	"math"
	"testing"

	"lampwright/internal/sample"
	"lampwright/internal/spell"
)

func TestNumbers(t *testing.T) {
	for _, c := range []struct {
		numbers []int
		want    string
	}{
		{nil, ""},
		{[]int{}, ""},
		{[]int{0}, "0"},
		{[]int{7, 0, 10}, "7 0 10"},
		{[]int{100, 100}, "100 100"},
		{[]int{-1, math.MaxInt32}, "-1 2147483647"},
	} {
		if got := spell.Numbers(c.numbers...); got != c.want {
			t.Errorf("Numbers of %v: %q, must be %q", c.numbers, got, c.want)
		}
	}
}

func TestNumbersOnlyReadsThem(t *testing.T) {
	m := sample.Around([]int{3, 1, 2}, 5)
	spell.Numbers(m.List...)
	if m.Changed() {
		t.Error("the numbers are changed")
	}
}
