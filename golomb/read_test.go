package golomb_test

import (
	"strings"
	"testing"

	"lampwright/api"
	"lampwright/golomb"
	"lampwright/internal/sample"
)

func TestD4ReadLeastReadsWhatIsWritten(t *testing.T) {
	for _, m := range divisors() {
		least(m).WantReadBack(t, below(m))
	}
	for _, at := range []int{0, 3, 8} {
		sample.WantRead(t, "ReadLeast with 1", least(1).Read, sample.Bits(sample.Mixed(8)), at, 0, at, api.OK)
	}
	sample.WantRead(t, "ReadLeast with 1", least(1).Read, api.Bits{}, 0, 0, 0, api.OK)
}

func TestD4ReadReadsWhatIsWritten(t *testing.T) {
	for _, m := range divisors() {
		var numbers []uint64
		for _, n := range append(sample.Numbers(), below(m)...) {
			if n/m < 100 {
				numbers = append(numbers, n)
			}
		}
		code(m).WantReadBack(t, numbers)
	}
}

func TestD4ReadZetaReadsWhatIsWritten(t *testing.T) {
	for k := 1; k <= 16; k++ {
		zeta(k).WantReadBack(t, sample.Numbers())
	}
}

func TestD4ReadsEachShortText(t *testing.T) {
	const longest, many = 9, 1 << 9
	for m := uint64(1); m <= 40; m++ {
		least(m).WantShortTexts(t, longest, m, longest)
		code(m).WantShortTexts(t, longest, many, longest)
	}
	for k := 1; k <= 16; k++ {
		zeta(k).WantShortTexts(t, longest, many, (40+k)/k)
	}
}

func TestD4WrongBitsAndPositions(t *testing.T) {
	for _, m := range []uint64{1, 2, 3, api.MaxNum} {
		least(m).WantPlaceErrors(t)
		code(m).WantPlaceErrors(t)
	}
	for _, k := range []int{1, 3, 16} {
		zeta(k).WantPlaceErrors(t)
	}
}

// Wrong bits come before a wrong m or k, and this comes before bits that end too early.
func TestD4WrongDivisorsAndKs(t *testing.T) {
	kinds := []sample.Kind{}
	for _, m := range wrongDivisors() {
		kinds = append(kinds, least(m), code(m))
	}
	for _, k := range wrongKs() {
		kinds = append(kinds, zeta(k))
	}
	for _, k := range kinds {
		k.WantPlaceErrors(t)
		for _, text := range []string{"", "0", "1", strings.Repeat("1", 80), strings.Repeat("0", 80), sample.Mixed(80)} {
			for at := range len(text) + 1 {
				sample.WantRead(t, k.Name, k.Read, sample.Bits(text), at, 0, 0, api.ErrRange)
			}
		}
	}
}

func TestD4ReadsUpToTheLastBit(t *testing.T) {
	for _, k := range []sample.Kind{least(5), least(api.MaxNum), code(5), code(api.MaxNum), zeta(1), zeta(16)} {
		for _, n := range []uint64{0, 4} {
			at := api.MaxLen - len(k.Spell(n))
			full := sample.Bits(sample.Mixed(at) + k.Spell(n))
			sample.WantRead(t, k.Name, k.Read, full, at, n, api.MaxLen, api.OK)
			sample.WantRead(t, k.Name, k.Read, full, api.MaxLen, 0, 0, api.ErrShort)
			sample.WantRead(t, k.Name, k.Read, full, api.MaxLen+1, 0, 0, api.ErrRange)
		}
	}
	for _, k := range []sample.Kind{code(1), code(api.MaxNum), zeta(1), zeta(16)} {
		sample.WantRead(t, k.Name, k.Read, sample.Bits(strings.Repeat("0", api.MaxLen)), 0, 0, 0, api.ErrShort)
	}
}

// spellBeyond spells a number whose quotient and remainder are given, however great it is.
func spellBeyond(quotient int, remainder, m uint64) string {
	return sample.Unary(quotient) + sample.Least(remainder, m)
}

func TestD4ReadOfNumbersThatAreTooGreat(t *testing.T) {
	for _, c := range []struct {
		quotient     int
		remainder, m uint64
	}{
		{1, 1, api.MaxNum},
		{1, api.MaxNum - 1, api.MaxNum},
		{2, 0, api.MaxNum},
		{quotients - 1, api.MaxNum - 1, api.MaxNum},
		{1, 2, api.MaxNum - 1},
		{2, 1, 1 << 39},
		{1024, 1, 1 << 30},
		{quotients - 1, 0, api.MaxNum/(quotients-1) + 1},
	} {
		k, text := code(c.m), spellBeyond(c.quotient, c.remainder, c.m)
		for _, part := range []int{len(text) - 1, len(text) - 10, c.quotient + 1, c.quotient, 0} {
			sample.WantRead(t, k.Name, k.Read, sample.Bits(text[:part]), 0, 0, 0, api.ErrShort)
		}
		sample.WantRead(t, k.Name, k.Read, sample.Bits(text), 0, 0, 0, api.ErrRange)
		if c.quotient < 1000 {
			k.WantError(t, text, api.ErrRange)
		}
	}
	for _, m := range []uint64{1 << 30, 1 << 39, api.MaxNum - 1, api.MaxNum} {
		quotient, remainder := uint64(api.MaxNum/m), uint64(api.MaxNum%m)
		text := spellBeyond(int(quotient), remainder, m)
		sample.WantRead(t, "Read of MaxNum", code(m).Read, sample.Bits(text), 0, api.MaxNum, len(text), api.OK)
	}
}

func TestD4ReadOfQuotientsThatAreTooGreat(t *testing.T) {
	for _, m := range []uint64{1, 2, 3, 1000, api.MaxNum / quotients} {
		last := uint64(quotients*m - 1)
		text := spellCode(last, m)
		sample.WantRead(t, "Read of the greatest quotient", code(m).Read, sample.Bits(text), 0, last, len(text), api.OK)
		for _, start := range []string{"", "1", sample.Mixed(63)} {
			// Of what follows the quotient there may be nothing, a part, or more than enough.
			beyond := start + sample.Unary(quotients)
			for end := 0; len(beyond)+end <= api.MaxLen; end++ {
				sample.WantRead(t, "Read", code(m).Read, sample.Bits(beyond+strings.Repeat("1", end)), len(start), 0, 0, api.ErrRange)
			}
			short := start + strings.Repeat("0", quotients)
			sample.WantRead(t, "Read", code(m).Read, sample.Bits(short), len(start), 0, 0, api.ErrShort)
		}
		for _, quotient := range []int{quotients + 1, api.MaxLen - 1} {
			sample.WantRead(t, "Read", code(m).Read, sample.Bits(sample.Unary(quotient)), 0, 0, 0, api.ErrRange)
		}
	}
	// One less is not refused before the remainder has been read.
	sample.WantRead(t, "Read", code(2).Read, sample.Bits(sample.Unary(quotients-1)), 0, 0, 0, api.ErrShort)
}

func TestD4ReadZetaOfNumbersThatAreTooGreat(t *testing.T) {
	for k := 1; k <= 16; k++ {
		h := 40 / k
		greatest := uint64(1)<<((h+1)*k) - 2
		for _, n := range []uint64{api.MaxNum + 1, api.MaxNum + 2, (api.MaxNum + greatest) / 2, greatest - 1, greatest} {
			if n > api.MaxNum && n <= greatest {
				zeta(k).WantEachPart(t, sample.Zeta(n, k), api.ErrShort)
				zeta(k).WantError(t, sample.Zeta(n, k), api.ErrRange)
			}
		}
		for _, beyond := range []int{h + 1, h + 2, 41, 64, 100, 5000} {
			sample.WantRead(t, "ReadZeta", zeta(k).Read, sample.Bits(strings.Repeat("0", beyond)), 0, 0, 0, api.ErrShort)
			zeta(k).WantError(t, sample.Unary(beyond), api.ErrRange)
		}
		// With the greatest h, nothing is refused before all has been read.
		sample.WantRead(t, "ReadZeta", zeta(k).Read, sample.Bits(sample.Unary(h)), 0, 0, 0, api.ErrShort)
		n, after, err := golomb.ReadZeta(sample.Bits(sample.Unary(api.MaxLen-1)), 0, k)
		if n != 0 || after != 0 || err != api.ErrRange {
			t.Errorf("ReadZeta of the greatest h: %d %d %d", n, after, err)
		}
	}
}
