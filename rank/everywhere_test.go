package rank_test

import (
	"strings"
	"testing"

	"lampwright/api"
	"lampwright/internal/sample"
	"lampwright/rank"
)

// oddNumbers are right and wrong positions, numbers of bits, values of bits and indices.
func oddNumbers() []int { return append(wrongNumbers(), 0, 1, 2, 7, 64, 65, api.MaxLen) }

// oddIndexes are right and wrong indexes.
func oddIndexes() []api.Index {
	all := []api.Index{{}, indexOf("", 1), indexOf("1", 64), indexOf(sample.Mixed(100), 7), indexOf(sample.Mixed(api.MaxLen), 64)}
	for _, every := range wrongEveries() {
		all = append(all, api.Index{Every: every}, api.Index{Every: every, Ahead: []int{0, 1, 2}})
	}
	return all
}

func TestP1ReturnsForAllArguments(t *testing.T) {
	for _, b := range sample.OddBits() {
		for _, n := range oddNumbers() {
			if ones, err := rank.Rank(b, n); err != api.OK && ones != 0 {
				t.Errorf("Rank: %d beside the error %d", ones, err)
			}
			for _, i := range oddNumbers() {
				if at, err := rank.Select(b, n, i); err != api.OK && at != 0 {
					t.Errorf("Select: %d beside the error %d", at, err)
				}
			}
			if x, err := rank.Build(b, n); err != api.OK && (x.Every != 0 || len(x.Ahead) != 0) {
				t.Errorf("Build: %v beside the error %d", x, err)
			}
			for _, x := range oddIndexes() {
				if ones, err := rank.By(b, x, n); err != api.OK && ones != 0 || err == api.OK && rank.Check(b, x) != api.OK {
					t.Errorf("By: %d beside the error %d", ones, err)
				}
			}
		}
	}
}

// A result that shared memory with an argument would carry the changes into it.
func TestP2ArgumentsStayAsTheyAre(t *testing.T) {
	for _, text := range longTexts() {
		for _, every := range everies() {
			g := sample.Guarded(text)
			m := sample.Around(indexOf(text, every).Ahead, 1)
			x := api.Index{Every: every, Ahead: m.List}
			for _, n := range oddNumbers() {
				rank.Rank(g.Bits, n)
				rank.Select(g.Bits, 0, n)
				rank.Select(g.Bits, 1, n)
				rank.Check(g.Bits, x)
				rank.By(g.Bits, x, n)
				built, _ := rank.Build(g.Bits, n)
				sample.Flip(built.Ahead)
			}
			if g.Changed() || m.Changed() {
				t.Errorf("an argument is changed: %s, every %d", text, every)
			}
		}
	}
}

func TestP2EmptyListsCanBeNilOrNot(t *testing.T) {
	for _, b := range []api.Bits{{}, {Bytes: []byte{}}} {
		wantRank(t, b, 0, 0, api.OK)
		wantRank(t, b, 1, 0, api.ErrRange)
		wantSelect(t, b, 0, 0, 0, api.ErrNone)
		wantSelect(t, b, 1, 0, 0, api.ErrNone)
		for _, every := range everies() {
			x := api.Index{Every: every, Ahead: []int{0}}
			wantBuild(t, b, every, x, api.OK)
			wantCheck(t, b, x, api.OK)
			wantBy(t, b, x, 0, 0, api.OK)
			wantBy(t, b, x, 1, 0, api.ErrRange)
			// Even no bits have an index with an element.
			wantCheck(t, b, api.Index{Every: every}, api.ErrState)
			wantCheck(t, b, api.Index{Every: every, Ahead: []int{}}, api.ErrState)
		}
	}
}

func TestP3EachCallIsByItself(t *testing.T) {
	text := sample.Mixed(40)
	b, x := sample.Bits(text), indexOf(text, 8)
	for range 3 {
		wantBuild(t, b, 8, x, api.OK)
		built, _ := rank.Build(b, 8)
		sample.Flip(built.Ahead)
		wantBuild(t, b, 8, x, api.OK)
		wantCheck(t, b, built, api.ErrState)
		wantCheck(t, b, x, api.OK)
		wantBy(t, b, x, 13, strings.Count(text[:13], "1"), api.OK)
		wantBy(t, b, x, 41, 0, api.ErrRange)
		wantRank(t, b, 13, strings.Count(text[:13], "1"), api.OK)
		wantSelect(t, b, 1, 0, strings.Index(text, "1"), api.OK)
		wantSelect(t, b, 2, 0, 0, api.ErrRange)
	}
}

func TestP4HoldsForMuch(t *testing.T) {
	much := api.Bits{Len: api.MaxLen, Bytes: make([]byte, 1<<26)}
	long := api.Index{Every: 1, Ahead: make([]int, 1<<22)}
	wantRank(t, much, 0, 0, api.ErrForm)
	wantSelect(t, much, 0, 0, 0, api.ErrForm)
	wantBuild(t, much, 1, api.Index{}, api.ErrForm)
	wantCheck(t, much, long, api.ErrForm)
	wantBy(t, much, long, 0, 0, api.ErrForm)
	// The beginning of the long index is that of 0 bits.
	zeros := sample.Bits(strings.Repeat("0", api.MaxLen))
	wantCheck(t, zeros, api.Index{Every: 1, Ahead: long.Ahead[:api.MaxLen+1]}, api.OK)
	wantCheck(t, zeros, long, api.ErrState)
	wantBy(t, zeros, long, 0, 0, api.ErrState)
	wantCheck(t, api.Bits{}, long, api.ErrState)
}
