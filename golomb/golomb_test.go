package golomb_test

import (
	"fmt"
	"math"
	"strings"
	"testing"

	"lampwright/api"
	"lampwright/golomb"
	"lampwright/internal/sample"
)

// quotients is how many quotients D2 allows, from 0 on.
const quotients = api.MaxLen - 64

func spellCode(n, m uint64) string { return sample.Unary(int(n/m)) + sample.Least(n%m, m) }

func least(m uint64) sample.Kind {
	return sample.Kind{
		Name:  fmt.Sprint("ReadLeast with ", m),
		Spell: func(n uint64) string { return sample.Least(n, m) },
		Read:  func(b api.Bits, at int) (uint64, int, api.Errno) { return golomb.ReadLeast(b, at, m) },
	}
}

func code(m uint64) sample.Kind {
	return sample.Kind{
		Name:  fmt.Sprint("Read with ", m),
		Spell: func(n uint64) string { return spellCode(n, m) },
		Read:  func(b api.Bits, at int) (uint64, int, api.Errno) { return golomb.Read(b, at, m) },
	}
}

func zeta(k int) sample.Kind {
	return sample.Kind{
		Name:  fmt.Sprint("ReadZeta with ", k),
		Spell: func(n uint64) string { return sample.Zeta(n, k) },
		Read:  func(b api.Bits, at int) (uint64, int, api.Errno) { return golomb.ReadZeta(b, at, k) },
	}
}

func wantLeast(t *testing.T, n, m uint64, text string, wantErr api.Errno) {
	t.Helper()
	got, err := golomb.Least(n, m)
	sample.WantBits(t, fmt.Sprint("Least of ", n, " and ", m), got, err, text, wantErr)
}

func wantCode(t *testing.T, n, m uint64, text string, wantErr api.Errno) {
	t.Helper()
	got, err := golomb.Code(n, m)
	sample.WantBits(t, fmt.Sprint("Code of ", n, " and ", m), got, err, text, wantErr)
}

func wantZeta(t *testing.T, n uint64, k int, text string, wantErr api.Errno) {
	t.Helper()
	got, err := golomb.Zeta(n, k)
	sample.WantBits(t, fmt.Sprint("Zeta of ", n, " and ", k), got, err, text, wantErr)
}

// divisors are small ones, those around powers of 2, and the greatest.
func divisors() []uint64 {
	return []uint64{1, 2, 3, 4, 5, 6, 7, 8, 9, 10, 31, 32, 33, 1000, 1<<20 - 1, 1 << 20, 1<<20 + 1, 1<<39 - 1, 1 << 39, 1<<39 + 1, api.MaxNum - 1, api.MaxNum}
}

// wrongDivisors are none that m may be.
func wrongDivisors() []uint64 {
	return append([]uint64{0}, sample.GreatNumbers()...)
}

// wrongKs are none that k may be.
func wrongKs() []int { return []int{math.MinInt, -1, 0, 17, 18, 64, math.MaxInt} }

// below returns the numbers at the edges of those less than m: the first ones, those with which the longer codes begin, and the last ones.
func below(m uint64) []uint64 {
	d := uint64(1)
	for d < m {
		d *= 2
	}
	d -= m
	var all []uint64
	for _, n := range []uint64{0, 1, d - 1, d, d + 1, m / 2, m - 2, m - 1} {
		if n < m {
			all = append(all, n)
		}
	}
	return all
}

func TestD1LeastByHand(t *testing.T) {
	for m, codes := range map[uint64]string{
		2: "0 1", 3: "0 10 11", 4: "00 01 10 11", 5: "00 01 10 110 111", 6: "00 01 100 101 110 111", 7: "00 010 011 100 101 110 111",
		8: "000 001 010 011 100 101 110 111", 10: "000 001 010 011 100 101 1100 1101 1110 1111",
	} {
		for n, text := range strings.Fields(codes) {
			wantLeast(t, uint64(n), m, text, api.OK)
		}
	}
	wantLeast(t, 0, 1, "", api.OK)
	wantLeast(t, 23, 1000, "000010111", api.OK)
	wantLeast(t, 24, 1000, "0000110000", api.OK)
	wantLeast(t, 1<<40-1, 1<<40, strings.Repeat("1", 40), api.OK)
}

func TestD1LeastOfEachNumber(t *testing.T) {
	for m := uint64(1); m <= 130; m++ {
		for n := range m {
			wantLeast(t, n, m, sample.Least(n, m), api.OK)
		}
		wantLeast(t, m, m, "", api.ErrRange)
	}
	for _, m := range divisors() {
		for _, n := range below(m) {
			wantLeast(t, n, m, sample.Least(n, m), api.OK)
		}
	}
}

func TestD1LeastErrors(t *testing.T) {
	for _, m := range divisors() {
		for _, n := range append([]uint64{m, m + 1, 2 * m}, sample.GreatNumbers()...) {
			wantLeast(t, n, m, "", api.ErrRange)
		}
	}
	for _, m := range wrongDivisors() {
		for _, n := range []uint64{0, 1, m - 1, m, math.MaxUint64} {
			wantLeast(t, n, m, "", api.ErrRange)
		}
	}
}

func TestD2CodeByHand(t *testing.T) {
	for _, c := range []struct {
		n, m uint64
		text string
	}{
		{0, 1, "1"}, {5, 1, "000001"}, {0, 2, "10"}, {5, 2, "0011"}, {0, 3, "10"}, {4, 3, "0110"}, {5, 3, "0111"}, {6, 3, "0010"},
		{11, 5, "00101"}, {13, 5, "001110"}, {999, 1000, "1" + "1111111111"}, {1000, 1000, "01" + "000000000"},
		{1 << 40, 1 << 40, "01" + strings.Repeat("0", 40)}, {1 << 40, 1<<40 - 1, "01" + strings.Repeat("0", 38) + "10"},
	} {
		wantCode(t, c.n, c.m, c.text, api.OK)
	}
}

func TestD2CodeOfEachNumber(t *testing.T) {
	for m := uint64(1); m <= 40; m++ {
		for n := range uint64(300) {
			wantCode(t, n, m, spellCode(n, m), api.OK)
		}
	}
	for _, m := range divisors() {
		for _, n := range sample.Numbers() {
			if n/m < quotients {
				wantCode(t, n, m, spellCode(n, m), api.OK)
			} else {
				wantCode(t, n, m, "", api.ErrRange)
			}
		}
	}
}

func TestD2CodeOfTheGreatestQuotient(t *testing.T) {
	for _, m := range []uint64{1, 2, 3, 10, 64, 1000, 1 << 20, 1<<20 + 1, api.MaxNum / quotients} {
		last := quotients*m - 1
		wantCode(t, last, m, spellCode(last, m), api.OK)
		wantCode(t, last+1, m, "", api.ErrRange)
	}
	m := uint64(api.MaxNum/quotients + 1)
	wantCode(t, api.MaxNum, m, spellCode(api.MaxNum, m), api.OK)
}

func TestD2CodeErrors(t *testing.T) {
	for _, m := range divisors() {
		for _, n := range sample.GreatNumbers() {
			wantCode(t, n, m, "", api.ErrRange)
		}
	}
	for _, m := range wrongDivisors() {
		for _, n := range []uint64{0, 1, api.MaxNum, api.MaxNum + 1, math.MaxUint64} {
			wantCode(t, n, m, "", api.ErrRange)
		}
	}
}

func TestD3ZetaByHand(t *testing.T) {
	for k, codes := range map[int]string{
		1: "1 010 011 00100 00101 00110 00111 0001000",
		2: "10 110 111 01000 01001 01010 01011 011000 011001 011010 011011 011100 011101 011110 011111 00100000",
		3: "100 1010 1011 1100 1101 1110 1111 0100000 0100001 0100010 0100011 0100100 0100101 0100110 0100111 01010000",
	} {
		for n, text := range strings.Fields(codes) {
			wantZeta(t, uint64(n), k, text, api.OK)
		}
	}
	wantZeta(t, 0, 16, "1"+strings.Repeat("0", 15), api.OK)
	wantZeta(t, 1, 16, "1"+strings.Repeat("0", 14)+"10", api.OK)
	wantZeta(t, 1<<16-2, 16, "1"+strings.Repeat("1", 16), api.OK)
	wantZeta(t, 1<<16-1, 16, "01"+strings.Repeat("0", 31), api.OK)
	wantZeta(t, 1<<40, 16, "001"+"0000000100000000000000000000000000000000"+"00000001", api.OK)
}

func TestD3ZetaOfEachSize(t *testing.T) {
	for k := 1; k <= 16; k++ {
		for _, n := range sample.Numbers() {
			wantZeta(t, n, k, sample.Zeta(n, k), api.OK)
		}
	}
}

func TestD3ZetaErrors(t *testing.T) {
	for k := 1; k <= 16; k++ {
		for _, n := range sample.GreatNumbers() {
			wantZeta(t, n, k, "", api.ErrRange)
		}
	}
	for _, k := range wrongKs() {
		for _, n := range []uint64{0, 1, api.MaxNum, api.MaxNum + 1, math.MaxUint64} {
			wantZeta(t, n, k, "", api.ErrRange)
		}
	}
}
