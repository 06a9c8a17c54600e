package bits_test

import (
	"math"
	"strconv"
	"strings"
	"testing"

	"lampwright/api"
	"lampwright/bits"
	"lampwright/internal/sample"
)

// number is what a text of at most 64 signs 0 and 1 spells.
func number(t *testing.T, text string) uint64 {
	t.Helper()
	n, err := strconv.ParseUint("0"+text, 2, 64)
	if err != nil {
		t.Fatal(err)
	}
	return n
}

func wantNumber(t *testing.T, call string, got uint64, err api.Errno, n uint64, wantErr api.Errno) {
	t.Helper()
	if err != wantErr || got != n {
		t.Errorf("%s: %d %d, must be %d %d", call, got, err, n, wantErr)
	}
}

func TestA1CheckTakesBits(t *testing.T) {
	for _, text := range sample.Texts(10) {
		if err := bits.Check(sample.Bits(text)); err != api.OK {
			t.Errorf("Check of %q: %d", text, err)
		}
	}
	for _, n := range []int{api.MaxLen - 8, api.MaxLen - 1, api.MaxLen} {
		if err := bits.Check(sample.Bits(strings.Repeat("1", n))); err != api.OK {
			t.Errorf("Check of %d bits: %d", n, err)
		}
	}
	if err := bits.Check(api.Bits{Bytes: []byte{}}); err != api.OK {
		t.Errorf("Check of no bits in an empty list: %d", err)
	}
}

func TestA1CheckRefusesWrongBits(t *testing.T) {
	for _, w := range sample.WrongBits() {
		if err := bits.Check(w.Bits); err != w.Err {
			t.Errorf("Check of Len %d, %d bytes: %d, must be %d", w.Bits.Len, len(w.Bits.Bytes), err, w.Err)
		}
	}
}

func TestA1CheckLooksAtEachBitAfterTheLast(t *testing.T) {
	for used := 1; used < 8; used++ {
		for at := range 8 {
			b := api.Bits{Len: 8 + used, Bytes: []byte{0xff, 0x80 >> at}}
			want := api.OK
			if at >= used {
				want = api.ErrForm
			}
			if err := bits.Check(b); err != want {
				t.Errorf("Check of %v: %d, must be %d", b, err, want)
			}
		}
	}
}

func TestA2PutAppends(t *testing.T) {
	for _, text := range sample.Texts(9) {
		for _, end := range sample.Texts(4) {
			got, err := bits.Put(sample.Bits(text), number(t, end), len(end))
			sample.WantBits(t, "Put", got, err, text+end, api.OK)
		}
	}
}

func TestA2PutOfEachWidth(t *testing.T) {
	for width := range 65 {
		most := uint64(math.MaxUint64)
		if width < 64 {
			most = 1<<width - 1
		}
		for start := range 9 {
			text := sample.Mixed(start)
			for _, n := range []uint64{0, most, most >> 1, most & 0x123456789abcdef5} {
				got, err := bits.Put(sample.Bits(text), n, width)
				sample.WantBits(t, "Put", got, err, text+sample.Binary(n, width), api.OK)
			}
			if width < 64 {
				got, err := bits.Put(sample.Bits(text), most+1, width)
				sample.WantBits(t, "Put of a number that is too great", got, err, "", api.ErrRange)
			}
		}
	}
}

func TestA2PutErrors(t *testing.T) {
	full, almost := sample.Mixed(api.MaxLen), sample.Mixed(api.MaxLen-1)
	for _, c := range []struct {
		text  string
		n     uint64
		width int
		want  string
		err   api.Errno
	}{
		{"01", 0, -1, "", api.ErrRange},
		{"01", 0, 65, "", api.ErrRange},
		{"01", 0, math.MinInt, "", api.ErrRange},
		{"01", 0, math.MaxInt, "", api.ErrRange},
		{"01", 1, 0, "", api.ErrRange},
		{"01", math.MaxUint64, 63, "", api.ErrRange},
		{full, 0, 0, full, api.OK},
		{full, 0, 1, "", api.ErrFull},
		{full, 1, 1, "", api.ErrFull},
		{almost, 1, 1, almost + "1", api.OK},
		{almost, 1, 2, "", api.ErrFull},
		{almost, 0, 64, "", api.ErrFull},
		{sample.Mixed(api.MaxLen - 64), math.MaxUint64, 64, sample.Mixed(api.MaxLen-64) + strings.Repeat("1", 64), api.OK},
		// The error that A2 mentions first.
		{full, 1, 0, "", api.ErrRange},
		{full, 0, 65, "", api.ErrRange},
		{full, 4, 2, "", api.ErrRange},
	} {
		got, err := bits.Put(sample.Bits(c.text), c.n, c.width)
		sample.WantBits(t, "Put of "+strconv.Itoa(c.width), got, err, c.want, c.err)
	}
}

func TestA2GetReads(t *testing.T) {
	text := sample.Mixed(150)
	for at := range len(text) + 1 {
		for width := range 65 {
			got, err := bits.Get(sample.Bits(text), at, width)
			if at+width > len(text) {
				wantNumber(t, "Get beyond the end", got, err, 0, api.ErrShort)
			} else {
				wantNumber(t, "Get", got, err, number(t, text[at:at+width]), api.OK)
			}
		}
	}
}

func TestA2GetErrors(t *testing.T) {
	for _, c := range []struct {
		text      string
		at, width int
		n         uint64
		err       api.Errno
	}{
		{"0110", 1, 3, 6, api.OK},
		{"0110", 4, 0, 0, api.OK},
		{"", 0, 0, 0, api.OK},
		{"", 0, 1, 0, api.ErrShort},
		{"0110", 4, 1, 0, api.ErrShort},
		{"0110", 2, 3, 0, api.ErrShort},
		{"0110", 5, 0, 0, api.ErrRange},
		{"0110", -1, 0, 0, api.ErrRange},
		{"0110", math.MinInt, 1, 0, api.ErrRange},
		{"0110", math.MaxInt, 1, 0, api.ErrRange},
		{"0110", 0, -1, 0, api.ErrRange},
		{"0110", 0, math.MinInt, 0, api.ErrRange},
		{"0110", 0, math.MaxInt, 0, api.ErrRange},
		{sample.Mixed(100), 0, 65, 0, api.ErrRange},
		// The error that A2 mentions first.
		{"0110", 0, 65, 0, api.ErrRange},
		{"0110", 5, 1, 0, api.ErrRange},
		{strings.Repeat("1", 64), 0, 64, math.MaxUint64, api.OK},
		{sample.Mixed(api.MaxLen), api.MaxLen, 1, 0, api.ErrShort},
	} {
		got, err := bits.Get(sample.Bits(c.text), c.at, c.width)
		wantNumber(t, "Get of "+strconv.Itoa(c.at)+" "+strconv.Itoa(c.width), got, err, c.n, c.err)
	}
}

func TestA3JoinPutsOneAfterTheOther(t *testing.T) {
	for _, a := range append(sample.Texts(5), sample.Mixed(16), sample.Mixed(77)) {
		for _, b := range append(sample.Texts(5), sample.Mixed(8), sample.Mixed(63)) {
			got, err := bits.Join(sample.Bits(a), sample.Bits(b))
			sample.WantBits(t, "Join", got, err, a+b, api.OK)
		}
	}
}

func TestA3JoinErrors(t *testing.T) {
	all := sample.Mixed(api.MaxLen)
	for _, at := range []int{1, 3, 8, api.MaxLen - 1, api.MaxLen} {
		got, err := bits.Join(sample.Bits(all[:at]), sample.Bits(all[at:]))
		sample.WantBits(t, "Join of all bits", got, err, all, api.OK)
		got, err = bits.Join(sample.Bits(all[:at]), sample.Bits(all[at-1:]))
		sample.WantBits(t, "Join of one bit too many", got, err, "", api.ErrFull)
	}
	got, err := bits.Join(api.Bits{}, sample.Bits(all))
	sample.WantBits(t, "Join of nothing and all bits", got, err, all, api.OK)
	for _, w := range sample.WrongBits() {
		got, err := bits.Join(w.Bits, api.Bits{Len: 1})
		sample.WantBits(t, "Join of a wrong a", got, err, "", w.Err)
		got, err = bits.Join(sample.Bits(all), w.Bits)
		sample.WantBits(t, "Join of a wrong b", got, err, "", w.Err)
	}
	got, err = bits.Join(api.Bits{Len: 1}, api.Bits{Len: -1})
	sample.WantBits(t, "Join of a wrong a and a wrong b", got, err, "", api.ErrForm)
}

func TestA3CutReturnsAPart(t *testing.T) {
	for _, text := range []string{"", "1", sample.Mixed(8), sample.Mixed(50), strings.Repeat("1", 41)} {
		for from := -1; from <= len(text)+1; from++ {
			for to := -1; to <= len(text)+1; to++ {
				got, err := bits.Cut(sample.Bits(text), from, to)
				if 0 <= from && from <= to && to <= len(text) {
					sample.WantBits(t, "Cut", got, err, text[from:to], api.OK)
				} else {
					sample.WantBits(t, "Cut out of range", got, err, "", api.ErrRange)
				}
			}
		}
	}
	all := sample.Mixed(api.MaxLen)
	got, err := bits.Cut(sample.Bits(all), 0, api.MaxLen)
	sample.WantBits(t, "Cut of all bits", got, err, all, api.OK)
}

func TestA3CutErrors(t *testing.T) {
	for _, c := range [][2]int{{math.MinInt, 0}, {math.MaxInt, math.MaxInt}, {0, math.MaxInt}, {0, math.MinInt}, {math.MinInt, math.MinInt}} {
		got, err := bits.Cut(sample.Bits("0110"), c[0], c[1])
		sample.WantBits(t, "Cut out of range", got, err, "", api.ErrRange)
	}
}

func TestA2A3WrongBitsComeFirst(t *testing.T) {
	for _, w := range sample.WrongBits() {
		for _, bad := range []int{0, -1, 65, math.MaxInt, math.MinInt} {
			got, err := bits.Put(w.Bits, 1, bad)
			sample.WantBits(t, "Put", got, err, "", w.Err)
			n, err := bits.Get(w.Bits, bad, bad)
			wantNumber(t, "Get", n, err, 0, w.Err)
			got, err = bits.Cut(w.Bits, bad, bad)
			sample.WantBits(t, "Cut", got, err, "", w.Err)
		}
	}
}
