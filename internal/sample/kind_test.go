package sample

import (
	"slices"
	"strings"
	"testing"

	"lampwright/api"
	"lampwright/unary"
)

// counter counts how often a check fails.
type counter int

func (c *counter) Helper() {}

func (c *counter) Errorf(string, ...any) { *c++ }

// fails reports how often a check fails.
func fails(check func(T)) int {
	c := counter(0)
	check(&c)
	return int(c)
}

func TestWantBits(t *testing.T) {
	want := func(text string, err api.Errno) int {
		return fails(func(t T) { WantBits(t, "", Bits("01"), api.OK, text, err) })
	}
	if want("01", api.OK) != 0 || want("011", api.OK) != 1 || want("01", api.ErrForm) != 1 {
		t.Error("WantBits does not tell results apart")
	}
}

func TestKindTakesWhatIsRight(t *testing.T) {
	k := Kind{"Read", func(n uint64) string { return Unary(int(n)) }, unary.Read}
	k.WantReadBack(t, []uint64{0, 1, 2, 30, 100})
	k.WantShortTexts(t, 8, 9, 9)
	k.WantPlaceErrors(t)
	k.WantNothingBesideErrors(t)
	k.WantArgumentsKept(t)
	k.WantEachPart(t, "000000000001", api.ErrShort)
}

// changeBits is a reader that does all wrong.
func changeBits(b api.Bits, at int) (uint64, int, api.Errno) {
	if len(b.Bytes) > 0 {
		b.Bytes[0] ^= 0x80
	}
	if at < 0 {
		return 1, 0, api.ErrRange
	}
	return 1, at, api.OK
}

func TestKindNoticesWhatIsWrong(t *testing.T) {
	k := Kind{"Read", func(n uint64) string { return Unary(int(n)) }, changeBits}
	for i, check := range []func(T){
		func(t T) { k.WantReadBack(t, []uint64{1}) },
		func(t T) { k.WantShortTexts(t, 3, 3, 3) },
		func(t T) { k.WantEachPart(t, "01", api.ErrShort) },
		func(t T) { k.WantError(t, "01", api.ErrRange) },
		k.WantPlaceErrors,
		k.WantNothingBesideErrors,
		k.WantArgumentsKept,
	} {
		if fails(check) == 0 {
			t.Errorf("check %d notices nothing", i)
		}
	}
}

func TestSpellings(t *testing.T) {
	if Binary(5, 3) != "101" || Binary(5, 5) != "00101" || Binary(0, 0) != "" || Binary(1<<63, 64) != "1"+strings.Repeat("0", 63) {
		t.Error("Binary does not spell the bits")
	}
	if Unary(0) != "1" || Unary(3) != "0001" {
		t.Error("Unary does not spell the code")
	}
	if Gamma(0) != "1" || Gamma(1) != "010" || Gamma(6) != "00111" || Gamma(7) != "0001000" {
		t.Error("Gamma does not spell the code")
	}
	if Least(0, 1) != "" || Least(1, 5) != "01" || Least(3, 5) != "110" || Least(4, 5) != "111" {
		t.Error("Least does not spell the number")
	}
	if Zeta(0, 1) != "1" || Zeta(6, 1) != "00111" || Zeta(0, 2) != "10" || Zeta(6, 2) != "01011" || Zeta(0, 16) != "1"+strings.Repeat("0", 15) {
		t.Error("Zeta does not spell the code")
	}
}

func TestNumbers(t *testing.T) {
	if n := Numbers(); n[0] != 0 || slices.Max(n) != api.MaxNum {
		t.Error("Numbers are not from 0 to MaxNum")
	}
	if slices.Min(GreatNumbers()) != api.MaxNum+1 {
		t.Error("GreatNumbers do not begin after MaxNum")
	}
}
