package fib_test

import (
	"math"
	"strings"
	"testing"

	"lampwright/api"
	"lampwright/fib"
	"lampwright/internal/sample"
)

// spell writes the code of n, however great it is.
func spell(n uint64) string {
	l := split(n + 1)
	text := []byte(strings.Repeat("0", l[len(l)-1]+1))
	for _, i := range l {
		text[i] = '1'
	}
	return string(text) + "1"
}

func code() sample.Kind { return sample.Kind{Name: "Read", Spell: spell, Read: fib.Read} }

func TestE3CodesByHand(t *testing.T) {
	for n, text := range []string{"11", "011", "0011", "1011", "00011", "10011", "01011", "000011", "100011", "010011", "001011", "101011", "0000011"} {
		wantCode(t, uint64(n), text, api.OK)
	}
	wantCode(t, 100, "10101000011", api.OK)
	wantCode(t, 987, "1000000000000011", api.OK)
	wantCode(t, api.MaxNum, "00100101010100010001010101010101000001010000010000000100011", api.OK)
}

func TestE3CodesOfEachSize(t *testing.T) {
	for _, n := range numbers() {
		wantCode(t, n, spell(n), api.OK)
	}
}

func TestE3CodesOfNumbersThatAreTooGreat(t *testing.T) {
	for _, n := range sample.GreatNumbers() {
		wantCode(t, n, "", api.ErrRange)
	}
}

func TestE3ReadsWhatIsWritten(t *testing.T) {
	code().WantReadBack(t, numbers())
}

func TestE3ReadsEachShortText(t *testing.T) {
	const longest = 14
	code().WantShortTexts(t, longest, 1<<longest, longest+1)
}

func TestE3WrongBitsAndPositions(t *testing.T) {
	code().WantPlaceErrors(t)
}

// A 1 bit before the position, or the end of one code and the beginning of the next, are not two adjacent 1 bits.
func TestE3ReadsEachCodeByItself(t *testing.T) {
	text := ""
	numbers := []uint64{0, 0, 3, 0, 5, 11, 1, api.MaxNum, 3}
	for _, n := range numbers {
		text += spell(n)
	}
	b, at := sample.Bits(text), 0
	for _, n := range numbers {
		after := at + len(spell(n))
		sample.WantRead(t, "Read", fib.Read, b, at, n, after, api.OK)
		at = after
	}
	sample.WantRead(t, "Read", fib.Read, b, at, 0, 0, api.ErrShort)
	sample.WantRead(t, "Read", fib.Read, sample.Bits("1110"), 2, 0, 0, api.ErrShort)
}

func TestE3ReadsUpToTheLastBit(t *testing.T) {
	for _, n := range []uint64{0, 5, api.MaxNum} {
		at := api.MaxLen - len(spell(n))
		full := sample.Bits(sample.Mixed(at) + spell(n))
		sample.WantRead(t, "Read", fib.Read, full, at, n, api.MaxLen, api.OK)
		sample.WantRead(t, "Read", fib.Read, full, api.MaxLen-1, 0, 0, api.ErrShort)
		sample.WantRead(t, "Read", fib.Read, full, api.MaxLen, 0, 0, api.ErrShort)
		sample.WantRead(t, "Read", fib.Read, full, api.MaxLen+1, 0, 0, api.ErrRange)
	}
}

// Even if it is clear that the number is too great, ErrShort comes first.
func TestE3BitsWithoutTwoAdjacentOnes(t *testing.T) {
	for _, part := range []string{"0", "10", "01", "001"} {
		for _, many := range []int{1, 30, 60, 100, api.MaxLen / 3} {
			code().WantEachPart(t, strings.Repeat(part, many)[:min(many, 200)], api.ErrShort)
			sample.WantRead(t, "Read", fib.Read, sample.Bits(strings.Repeat(part, many)), 0, 0, 0, api.ErrShort)
		}
	}
}

func TestE3ReadNumbersThatAreTooGreat(t *testing.T) {
	f := fibonacci()
	great := append(sample.GreatNumbers(), f[58]-2, f[58]-1, f[58], f[63]-1, f[63], f[64]-2, f[64]-1, f[64], f[90]-1, f[91]-1)
	for _, n := range great {
		if n == math.MaxUint64 {
			continue // n + 1 would be 2^64
		}
		code().WantEachPart(t, spell(n), api.ErrShort)
		code().WantError(t, spell(n), api.ErrRange)
	}
}

// Beyond index 91 no uint64 has the number, so that adding would come round to small ones.
func TestE3ReadIndicesThatAreTooGreat(t *testing.T) {
	for i := 58; i < api.MaxLen-1; i += 1 + i/50 {
		sample.WantRead(t, "Read", fib.Read, sample.Bits(sample.Unary(i)+"1"), 0, 0, 0, api.ErrRange)
		sample.WantRead(t, "Read", fib.Read, sample.Bits("1"+sample.Unary(i-1)+"1"), 0, 0, 0, api.ErrRange)
	}
	sample.WantRead(t, "Read", fib.Read, sample.Bits(sample.Unary(api.MaxLen-2)+"1"), 0, 0, 0, api.ErrRange)
	for _, many := range []int{29, 30, 32, 33, 60, 1000, api.MaxLen/2 - 1} {
		code().WantError(t, strings.Repeat("01", many)[:min(2*many, 8000)]+"1", api.ErrRange)
		sample.WantRead(t, "Read", fib.Read, sample.Bits(strings.Repeat("10", many)+"11"), 0, 0, 0, api.ErrRange)
	}
}
