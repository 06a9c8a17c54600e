package fib_test

import (
	"math"
	"slices"
	"strconv"
	"testing"

	"lampwright/api"
	"lampwright/fib"
	"lampwright/internal/sample"
)

// fibonacci returns all Fibonacci numbers that a uint64 can have, from 1, 2 on.
func fibonacci() []uint64 {
	l := []uint64{1, 2}
	for l[len(l)-1] <= math.MaxUint64-l[len(l)-2] {
		l = append(l, l[len(l)-1]+l[len(l)-2])
	}
	return l
}

// split returns the indices of the numbers whose sum is n, however great it is.
func split(n uint64) []int {
	var l []int
	for i, f := range slices.Backward(fibonacci()) {
		if f <= n {
			n -= f
			l = append([]int{i}, l...)
		}
	}
	return l
}

// numbers returns those of package sample, and those around each Fibonacci number, up to MaxNum.
func numbers() []uint64 {
	all := sample.Numbers()
	for _, f := range fibonacci() {
		for _, n := range []uint64{f - 2, f - 1, f, f + 1} {
			if n <= api.MaxNum {
				all = append(all, n)
			}
		}
	}
	return all
}

// wantNumber fails unless Number has these results.
func wantNumber(t *testing.T, i int, n uint64, err api.Errno) {
	t.Helper()
	if gotN, gotErr := fib.Number(i); gotN != n || gotErr != err {
		t.Errorf("Number of %d: %d %d, must be %d %d", i, gotN, gotErr, n, err)
	}
}

// wantParts fails unless Parts has these results.
func wantParts(t *testing.T, n uint64, l []int, err api.Errno) {
	t.Helper()
	if gotL, gotErr := fib.Parts(n); !slices.Equal(gotL, l) || gotErr != err {
		t.Errorf("Parts of %d: %v %d, must be %v %d", n, gotL, gotErr, l, err)
	}
}

// wantSum fails unless Sum has these results.
func wantSum(t *testing.T, l []int, n uint64, err api.Errno) {
	t.Helper()
	if gotN, gotErr := fib.Sum(l); gotN != n || gotErr != err {
		t.Errorf("Sum of %v: %d %d, must be %d %d", l, gotN, gotErr, n, err)
	}
}

// wantCode fails unless Code has these results.
func wantCode(t *testing.T, n uint64, text string, wantErr api.Errno) {
	t.Helper()
	got, err := fib.Code(n)
	sample.WantBits(t, "Code of "+strconv.FormatUint(n, 10), got, err, text, wantErr)
}

func TestE1Numbers(t *testing.T) {
	for i, n := range []uint64{1, 2, 3, 5, 8, 13, 21, 34, 55, 89, 144, 233, 377, 610, 987} {
		wantNumber(t, i, n, api.OK)
	}
	wantNumber(t, 57, 956722026041, api.OK)
	wantNumber(t, 62, 10610209857723, api.OK)
	wantNumber(t, 63, 17167680177565, api.OK)
	for i, n := range fibonacci()[:64] {
		wantNumber(t, i, n, api.OK)
	}
}

func TestE1IndicesOutOfRange(t *testing.T) {
	for _, i := range []int{math.MinInt, -64, -2, -1, 64, 65, 127, 128, 1 << 32, math.MaxInt} {
		wantNumber(t, i, 0, api.ErrRange)
	}
}

func TestE1PartsByHand(t *testing.T) {
	for _, c := range []struct {
		n uint64
		l []int
	}{
		{0, nil},
		{1, []int{0}},
		{2, []int{1}},
		{3, []int{2}},
		{4, []int{0, 2}},
		{5, []int{3}},
		{6, []int{0, 3}},
		{7, []int{1, 3}},
		{8, []int{4}},
		{11, []int{2, 4}},
		{12, []int{0, 2, 4}},
		{13, []int{5}},
		{100, []int{2, 4, 9}},
		{api.MaxNum, []int{1, 5, 7, 9, 11, 15, 19, 21, 23, 25, 27, 29, 31, 37, 39, 45, 53, 57}},
	} {
		wantParts(t, c.n, c.l, api.OK)
	}
}

// The sets without adjacent elements, in the order of the numbers that they are in binary, have the sums 0, 1, 2, and so on.
func TestE1PartsOfSmallNumbers(t *testing.T) {
	n := uint64(0)
	for set := range 1 << 15 {
		if set&(set<<1) != 0 {
			continue
		}
		var l []int
		for i := range 15 {
			if set>>i&1 == 1 {
				l = append(l, i)
			}
		}
		wantParts(t, n, l, api.OK)
		wantSum(t, l, n, api.OK)
		n++
	}
}

func TestE1PartsHaveTheSum(t *testing.T) {
	f := fibonacci()
	for _, n := range numbers() {
		l, err := fib.Parts(n)
		sum := uint64(0)
		for at, i := range l {
			if i < 0 || i > 63 || at > 0 && i-l[at-1] < 2 {
				t.Fatalf("Parts of %d: %v", n, l)
			}
			sum += f[i]
		}
		if sum != n || err != api.OK {
			t.Errorf("Parts of %d: %v %d", n, l, err)
		}
	}
}

func TestE1NumbersThatAreTooGreat(t *testing.T) {
	for _, n := range sample.GreatNumbers() {
		wantParts(t, n, nil, api.ErrRange)
	}
}

func TestE2SumsByHand(t *testing.T) {
	wantSum(t, nil, 0, api.OK)
	wantSum(t, []int{0}, 1, api.OK)
	wantSum(t, []int{0, 2, 4}, 12, api.OK)
	wantSum(t, []int{1, 4, 62}, 10610209857723+8+2, api.OK)
}

// Unlike Parts, Sum has no limit besides that of the indices.
func TestE2SumsThatAreGreaterThanMaxNum(t *testing.T) {
	wantSum(t, []int{58}, 1548008755920, api.OK)
	wantSum(t, []int{63}, 17167680177565, api.OK)
	wantSum(t, []int{61, 63}, 23725150497407, api.OK)
	var odd []int
	for i := 1; i < 64; i += 2 {
		odd = append(odd, i)
	}
	// The numbers with odd indices, and 1, have as their sum the number after the last one.
	wantSum(t, odd, fibonacci()[64]-1, api.OK)
}

func TestE2SumIsTheInverseOfParts(t *testing.T) {
	for _, n := range numbers() {
		l, _ := fib.Parts(n)
		wantSum(t, l, n, api.OK)
	}
}

func TestE2Errors(t *testing.T) {
	for _, c := range []struct {
		l   []int
		err api.Errno
	}{
		{[]int{-1}, api.ErrRange},
		{[]int{64}, api.ErrRange},
		{[]int{math.MinInt}, api.ErrRange},
		{[]int{math.MaxInt}, api.ErrRange},
		{[]int{1, 64}, api.ErrRange},
		{[]int{0, 0}, api.ErrState},
		{[]int{0, 1}, api.ErrState},
		{[]int{2, 0}, api.ErrState},
		{[]int{62, 63}, api.ErrState},
		{[]int{63, 63}, api.ErrState},
		{[]int{63, 0}, api.ErrState},
		{[]int{0, 2, 5, 6}, api.ErrState},
	} {
		wantSum(t, c.l, 0, c.err)
	}
}

func TestE2OrderOfErrors(t *testing.T) {
	for _, c := range []struct {
		l   []int
		err api.Errno
	}{
		// Both errors of one element.
		{[]int{63, 64}, api.ErrRange},
		{[]int{0, -1}, api.ErrRange},
		{[]int{5, math.MinInt}, api.ErrRange},
		// Errors of two elements.
		{[]int{5, 6, 64}, api.ErrState},
		{[]int{5, 64, 6}, api.ErrRange},
		{[]int{5, 5, -1}, api.ErrState},
		{[]int{math.MaxInt, 0}, api.ErrRange},
		{[]int{-1, 0}, api.ErrRange},
		{[]int{math.MinInt, math.MinInt + 1}, api.ErrRange},
	} {
		wantSum(t, c.l, 0, c.err)
	}
}

// sumOf returns what Sum must return: that of all elements but the last one, unless there is none, and then the last one.
func sumOf(l []int) (uint64, api.Errno) {
	if len(l) == 0 {
		return 0, api.OK
	}
	ahead, i := l[:len(l)-1], l[len(l)-1]
	sum, err := sumOf(ahead)
	switch {
	case err != api.OK:
		return 0, err
	case i < 0 || i > 63:
		return 0, api.ErrRange
	case len(ahead) > 0 && i-ahead[len(ahead)-1] < 2:
		return 0, api.ErrState
	}
	return sum + fibonacci()[i], api.OK
}

func TestE2AllShortLists(t *testing.T) {
	indices := []int{-1, 0, 1, 2, 3, 4, 61, 62, 63, 64}
	for _, x := range indices {
		for _, y := range indices {
			for _, z := range indices {
				l := []int{x, y, z}
				for many := range len(l) + 1 {
					n, err := sumOf(l[:many])
					wantSum(t, l[:many], n, err)
				}
			}
		}
	}
}
