package elias_test

import (
	"math"
	"strconv"
	"strings"
	"testing"

	"lampwright/api"
	"lampwright/elias"
	"lampwright/internal/sample"
)

func spellDelta(n uint64) string {
	text := strconv.FormatUint(n+1, 2)
	return sample.Gamma(uint64(len(text)-1)) + text[1:]
}

func gamma() sample.Kind {
	return sample.Kind{Name: "ReadGamma", Spell: sample.Gamma, Read: elias.ReadGamma}
}

func delta() sample.Kind {
	return sample.Kind{Name: "ReadDelta", Spell: spellDelta, Read: elias.ReadDelta}
}

// wantCodes fails unless Gamma and Delta return the bits of these texts, or both this error.
func wantCodes(t *testing.T, n uint64, gamma, delta string, wantErr api.Errno) {
	t.Helper()
	got, err := elias.Gamma(n)
	sample.WantBits(t, "Gamma of "+strconv.FormatUint(n, 10), got, err, gamma, wantErr)
	got, err = elias.Delta(n)
	sample.WantBits(t, "Delta of "+strconv.FormatUint(n, 10), got, err, delta, wantErr)
}

// wantLong fails unless Long has these results.
func wantLong(t *testing.T, n uint64, gamma, delta int, err api.Errno) {
	t.Helper()
	gotGamma, gotDelta, gotErr := elias.Long(n)
	if gotGamma != gamma || gotDelta != delta || gotErr != err {
		t.Errorf("Long of %d: %d %d %d, must be %d %d %d", n, gotGamma, gotDelta, gotErr, gamma, delta, err)
	}
}

func TestC1CodesByHand(t *testing.T) {
	for _, c := range []struct {
		n            uint64
		gamma, delta string
	}{
		{0, "1", "1"},
		{1, "010", "0100"},
		{2, "011", "0101"},
		{3, "00100", "01100"},
		{6, "00111", "01111"},
		{7, "0001000", "00100000"},
		{14, "0001111", "00100111"},
		{15, "000010000", "001010000"},
		{30, "000011111", "001011111"},
		{31, "00000100000", "0011000000"},
		{1<<40 - 1, strings.Repeat("0", 40) + "1" + strings.Repeat("0", 40), "00000101001" + strings.Repeat("0", 40)},
		{1 << 40, strings.Repeat("0", 40) + "1" + strings.Repeat("0", 39) + "1", "00000101001" + strings.Repeat("0", 39) + "1"},
	} {
		wantCodes(t, c.n, c.gamma, c.delta, api.OK)
	}
}

func TestC1CodesOfEachSize(t *testing.T) {
	for _, n := range sample.Numbers() {
		wantCodes(t, n, sample.Gamma(n), spellDelta(n), api.OK)
	}
}

func TestC1NumbersThatAreTooGreat(t *testing.T) {
	for _, n := range sample.GreatNumbers() {
		wantCodes(t, n, "", "", api.ErrRange)
	}
}

func TestC2ReadsWhatIsWritten(t *testing.T) {
	gamma().WantReadBack(t, sample.Numbers())
	delta().WantReadBack(t, sample.Numbers())
}

func TestC2ReadsEachShortText(t *testing.T) {
	const longest = 12
	gamma().WantShortTexts(t, longest, 1<<longest, longest)
	delta().WantShortTexts(t, longest, 1<<longest, longest)
}

func TestC2WrongBitsAndPositions(t *testing.T) {
	gamma().WantPlaceErrors(t)
	delta().WantPlaceErrors(t)
}

func TestC2ReadsUpToTheLastBit(t *testing.T) {
	for _, k := range []sample.Kind{gamma(), delta()} {
		for _, n := range []uint64{0, 5, api.MaxNum} {
			at := api.MaxLen - len(k.Spell(n))
			full := sample.Bits(sample.Mixed(at) + k.Spell(n))
			sample.WantRead(t, k.Name, k.Read, full, at, n, api.MaxLen, api.OK)
			sample.WantRead(t, k.Name, k.Read, full, api.MaxLen, 0, 0, api.ErrShort)
			sample.WantRead(t, k.Name, k.Read, full, api.MaxLen+1, 0, 0, api.ErrRange)
		}
		sample.WantRead(t, k.Name, k.Read, sample.Bits(strings.Repeat("0", api.MaxLen)), 0, 0, 0, api.ErrShort)
	}
}

// Up to k = 63 a code that ends too early is ErrShort, and only a complete one is ErrRange.
func TestC2NumbersThatAreTooGreat(t *testing.T) {
	for _, k := range []sample.Kind{gamma(), delta()} {
		for _, n := range sample.GreatNumbers() {
			if n == math.MaxUint64 {
				continue // n + 1 would have 65 bits
			}
			k.WantEachPart(t, k.Spell(n), api.ErrShort)
			k.WantError(t, k.Spell(n), api.ErrRange)
		}
	}
}

// From k = 64 on there is no need for the bits that would follow.
func TestC2LengthsThatAreTooGreat(t *testing.T) {
	for _, k := range []int{64, 65, 127, 128, 1000} {
		gamma().WantEachPart(t, sample.Unary(k), api.ErrShort)
		gamma().WantError(t, sample.Unary(k), api.ErrRange)
		// As the beginning of a delta code this is the unary code of the length of k.
		delta().WantEachPart(t, sample.Unary(k), api.ErrShort)
		delta().WantError(t, sample.Unary(k), api.ErrRange)
	}
	longest := sample.Bits(sample.Unary(api.MaxLen - 1))
	sample.WantRead(t, "ReadGamma", elias.ReadGamma, longest, 0, 0, 0, api.ErrRange)
	sample.WantRead(t, "ReadDelta", elias.ReadDelta, longest, 0, 0, 0, api.ErrRange)

	for _, k := range []uint64{64, 65, 126, 127, 1 << 32, api.MaxNum, api.MaxNum + 1, 1 << 62, math.MaxUint64 - 1} {
		delta().WantEachPart(t, sample.Gamma(k), api.ErrShort)
		delta().WantError(t, sample.Gamma(k), api.ErrRange)
	}
	delta().WantEachPart(t, sample.Gamma(63)+sample.Mixed(63), api.ErrShort)
	delta().WantError(t, sample.Gamma(63)+sample.Mixed(63), api.ErrRange)
}

func TestC3LongIsTheNumberOfBits(t *testing.T) {
	wantLong(t, 0, 1, 1, api.OK)
	wantLong(t, 1, 3, 4, api.OK)
	wantLong(t, 31, 11, 10, api.OK)
	wantLong(t, api.MaxNum, 81, 51, api.OK)
	for _, n := range sample.Numbers() {
		wantLong(t, n, len(sample.Gamma(n)), len(spellDelta(n)), api.OK)
	}
	for _, n := range sample.GreatNumbers() {
		wantLong(t, n, 0, 0, api.ErrRange)
	}
}
