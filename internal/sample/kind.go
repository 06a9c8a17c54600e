package sample

import (
	"math"
	"strconv"
	"strings"

	"lampwright/api"
)

// Kind of code: how a number is spelled with the signs 0 and 1, and what reads it.
type Kind struct {
	Name  string
	Spell func(n uint64) string
	Read  Reader
}

// WantReadBack fails unless each number is read from its code, wherever this stands and whatever follows, and none from a part of it.
func (k Kind) WantReadBack(t T, numbers []uint64) {
	t.Helper()
	for _, n := range numbers {
		code := k.Spell(n)
		for at := range 9 {
			text := Mixed(at) + code
			for _, end := range []string{"", "0", "1", strings.Repeat("0", 70), strings.Repeat("1", 70), Mixed(70)} {
				WantRead(t, k.Name, k.Read, Bits(text+end), at, n, len(text), api.OK)
			}
		}
		k.WantEachPart(t, code, api.ErrShort)
	}
}

// WantEachPart fails unless this is the error for each text that begins as this one does, but ends before it.
func (k Kind) WantEachPart(t T, text string, err api.Errno) {
	t.Helper()
	for end := range text {
		WantRead(t, k.Name, k.Read, Bits(text[:end]), 0, 0, 0, err)
	}
}

// WantError fails unless this is the error for the text, wherever it stands and whatever follows.
func (k Kind) WantError(t T, text string, err api.Errno) {
	t.Helper()
	for _, start := range []string{"", "1", Mixed(13)} {
		for _, end := range []string{"", "0", "1", strings.Repeat("1", 100), Mixed(150)} {
			WantRead(t, k.Name, k.Read, Bits(start+text+end), len(start), 0, 0, err)
		}
	}
}

// WantShortTexts fails unless of all texts of at most longest signs exactly those that begin with the code of a number less than many are read, as this number. The error for a text with this many 0 signs at its beginning, and a 1 behind them, is ErrRange; for all others, ErrShort.
func (k Kind) WantShortTexts(t T, longest int, many uint64, zeros int) {
	t.Helper()
	numbers := map[string]uint64{}
	for n := range many {
		if code := k.Spell(n); len(code) <= longest {
			numbers[code] = n
		}
	}
	for _, text := range Texts(longest) {
		b := Bits(text)
		for at := range len(text) + 1 {
			n, after, err := uint64(0), 0, api.ErrShort
			if strings.IndexByte(text[at:], '1') >= zeros {
				err = api.ErrRange
			}
			for end := at; end <= len(text); end++ {
				if found, ok := numbers[text[at:end]]; ok {
					n, after, err = found, end, api.OK
				}
			}
			WantRead(t, k.Name, k.Read, b, at, n, after, err)
		}
	}
}

// WantPlaceErrors fails unless wrong bits have their errors, whatever the position, and right ones have ErrRange for each position outside of them.
func (k Kind) WantPlaceErrors(t T) {
	t.Helper()
	for _, w := range WrongBits() {
		for _, at := range []int{math.MinInt, -1, 0, 1, api.MaxLen + 1, math.MaxInt} {
			WantRead(t, k.Name, k.Read, w.Bits, at, 0, 0, w.Err)
		}
	}
	for _, text := range []string{"", "1", "00000000", Mixed(30), strings.Repeat("1", api.MaxLen)} {
		for _, at := range []int{math.MinInt, -8, -1, len(text) + 1, len(text) + 8, math.MaxInt} {
			WantRead(t, k.Name, k.Read, Bits(text), at, 0, 0, api.ErrRange)
		}
	}
}

// WantNothingBesideErrors fails if reading panics, or if it returns an error and anything else.
func (k Kind) WantNothingBesideErrors(t T) {
	t.Helper()
	all := []api.Bits{{}, Bits("1"), Bits("0001"), Bits(Mixed(api.MaxLen)), Bits(strings.Repeat("0", api.MaxLen))}
	for _, w := range WrongBits() {
		all = append(all, w.Bits)
	}
	for _, b := range all {
		for _, at := range []int{math.MinInt, -1, 0, 1, 8, api.MaxLen - 1, api.MaxLen, api.MaxLen + 1, math.MaxInt} {
			if n, after, err := k.Read(b, at); err != api.OK && (n != 0 || after != 0) {
				t.Errorf("%s: %d %d beside the error %d", k.Name, n, after, err)
			}
		}
	}
}

// WantArgumentsKept fails if reading changes the bits or the memory around them.
func (k Kind) WantArgumentsKept(t T) {
	t.Helper()
	for n := range 60 {
		for _, text := range []string{Mixed(n), strings.Repeat("0", n/3) + strings.Repeat("1", n-n/3)} {
			g := Guarded(text)
			for at := range n + 1 {
				k.Read(g.Bits, at)
			}
			if g.Changed() {
				t.Errorf("%s: an argument of %d bits is changed", k.Name, n)
			}
		}
	}
}

// Binary spells a number with width signs 0 and 1, the highest bit first.
func Binary(n uint64, width int) string {
	text := make([]byte, width)
	for i := range text {
		text[i] = '0' + byte(n>>(width-1-i)&1)
	}
	return string(text)
}

// Unary spells a number as that many signs 0, and a 1.
func Unary(n int) string { return strings.Repeat("0", n) + "1" }

// Gamma spells the gamma code of a number: the 1 that ends the unary code is the highest bit of n + 1.
func Gamma(n uint64) string {
	text := strconv.FormatUint(n+1, 2)
	return strings.Repeat("0", len(text)-1) + text
}

// Least spells a number less than m with as few signs as possible.
func Least(n, m uint64) string {
	s := 0
	for uint64(1)<<s < m {
		s++
	}
	d := 1<<s - m
	if n < d {
		return Binary(n, s-1)
	}
	return Binary(n+d, s)
}

// Zeta spells the Zeta code with k of a number.
func Zeta(n uint64, k int) string {
	h := 0
	for (n+1)>>((h+1)*k) != 0 {
		h++
	}
	low, high := uint64(1)<<(h*k), uint64(1)<<((h+1)*k)
	return Unary(h) + Least(n+1-low, high-low)
}

// Numbers returns all numbers less than 300, and then those around each power of 2, up to MaxNum.
func Numbers() []uint64 {
	var all []uint64
	for n := range uint64(300) {
		all = append(all, n)
	}
	for power := uint64(512); power <= api.MaxNum; power *= 2 {
		all = append(all, power-2, power-1, power)
		if power < api.MaxNum {
			all = append(all, power+1, power+power/3)
		}
	}
	return all
}

// GreatNumbers returns numbers greater than MaxNum.
func GreatNumbers() []uint64 {
	return []uint64{api.MaxNum + 1, api.MaxNum + 2, 1<<41 - 1, 1 << 41, 1 << 62, 1<<63 - 1, 1 << 63, math.MaxUint64 - 1, math.MaxUint64}
}
