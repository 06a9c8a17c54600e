package varint_test

import (
	"bytes"
	"math"
	"slices"
	"testing"

	"lampwright/api"
	"lampwright/internal/sample"
	"lampwright/varint"
)

// wantRead fails unless Read has these results.
func wantRead(t *testing.T, b []byte, at int, n uint64, after int, err api.Errno) {
	t.Helper()
	gotN, gotAfter, gotErr := varint.Read(b, at)
	if gotN != n || gotAfter != after || gotErr != err {
		t.Errorf("Read of %d bytes at %d: %d %d %d, must be %d %d %d", len(b), at, gotN, gotAfter, gotErr, n, after, err)
	}
}

// wantAll fails unless All has these results.
func wantAll(t *testing.T, b []byte, l []uint64, err api.Errno) {
	t.Helper()
	if gotL, gotErr := varint.All(b); !slices.Equal(gotL, l) || gotErr != err {
		t.Errorf("All of %d bytes: %v %d, must be %v %d", len(b), gotL, gotErr, l, err)
	}
}

// wantWrong fails unless the bytes have this error, wherever they stand and whatever follows.
func wantWrong(t *testing.T, b []byte, err api.Errno) {
	t.Helper()
	for _, start := range [][]byte{nil, {0}, {255, 1}, {128, 128, 128, 1, 0, 127}} {
		for _, end := range [][]byte{nil, {0}, {1}, {128}, bytes.Repeat([]byte{255}, 20)} {
			all := slices.Concat(start, b, end)
			wantRead(t, all, len(start), 0, 0, err)
			wantAll(t, all, nil, err)
		}
	}
}

func TestF3ReadsWhatIsWritten(t *testing.T) {
	for _, n := range numbers() {
		for _, start := range [][]byte{nil, {0}, {255}, {128, 200, 255}, bytes.Repeat([]byte{129}, 30)} {
			for _, end := range [][]byte{nil, {0}, {1}, {128}, bytes.Repeat([]byte{255}, 20)} {
				b := slices.Concat(start, sample.Varint(n), end)
				wantRead(t, b, len(start), n, len(b)-len(end), api.OK)
			}
		}
		wantAll(t, sample.Varint(n), []uint64{n}, api.OK)
	}
}

func TestF3PartsOfNumbersAreTooShort(t *testing.T) {
	for _, n := range numbers() {
		b := sample.Varint(n)
		for end := range b {
			wantRead(t, b[:end], 0, 0, 0, api.ErrShort)
			wantRead(t, append([]byte{5}, b[:end]...), 1, 0, 0, api.ErrShort)
			if end > 0 {
				wantAll(t, append([]byte{5}, b[:end]...), nil, api.ErrShort)
			}
		}
	}
}

func TestF3ReadsFromTheMiddleOfANumber(t *testing.T) {
	b := []byte{255, 255, 255, 255, 255, 255, 255, 255, 255, 1}
	wantRead(t, b, 1, 1<<57-1, 10, api.OK)
	wantRead(t, b, 8, 255, 10, api.OK)
	wantRead(t, b, 9, 1, 10, api.OK)
	// What has no place in a number may begin one.
	wantRead(t, []byte{128, 0}, 1, 0, 2, api.OK)
	wantRead(t, []byte{255, 255, 255, 255, 255, 255, 255, 255, 255, 2}, 1, 1<<58-1-1<<56, 10, api.OK)
}

func TestF3TooManyBytes(t *testing.T) {
	for _, long := range []int{api.MaxBytes + 1, api.MaxBytes + 2, 2 * api.MaxBytes} {
		for _, filling := range []byte{0, 1, 128, 255} {
			b := bytes.Repeat([]byte{filling}, long)
			// This comes before all other errors.
			for _, at := range []int{math.MinInt, -1, 0, 1, long, long + 1, math.MaxInt} {
				wantRead(t, b, at, 0, 0, api.ErrMany)
			}
			wantAll(t, b, nil, api.ErrMany)
		}
	}
	full := make([]byte, api.MaxBytes)
	wantRead(t, full, 0, 0, 1, api.OK)
	wantRead(t, full, api.MaxBytes-1, 0, api.MaxBytes, api.OK)
	wantAll(t, full, make([]uint64, api.MaxBytes), api.OK)
}

func TestF3PositionsOutOfRange(t *testing.T) {
	for _, b := range [][]byte{nil, {5}, {128}, {128, 0}, bytes.Repeat([]byte{255}, 20), make([]byte, api.MaxBytes)} {
		for _, at := range []int{math.MinInt, -5, -1, len(b) + 1, len(b) + 8, math.MaxInt} {
			wantRead(t, b, at, 0, 0, api.ErrRange)
		}
		wantRead(t, b, len(b), 0, 0, api.ErrShort)
	}
}

func TestF3TheTenthByte(t *testing.T) {
	for _, filling := range []byte{128, 129, 200, 255} {
		nine := bytes.Repeat([]byte{filling}, 9)
		wantRead(t, nine, 0, 0, 0, api.ErrShort)
		for tenth := range 256 {
			b := append(slices.Clip(nine), byte(tenth))
			switch {
			case tenth == 0:
				wantWrong(t, b, api.ErrForm)
			case tenth == 1:
				n, _, _ := varint.Read(b, 0)
				wantRead(t, b, 0, n, 10, api.OK)
				wantWrite(t, []uint64{n}, b, api.OK)
			default:
				wantWrong(t, b, api.ErrRange)
			}
		}
	}
	for _, long := range []int{11, 12, 19, 20, 100, 4000} {
		wantWrong(t, bytes.Repeat([]byte{128}, long), api.ErrRange)
		wantWrong(t, bytes.Repeat([]byte{255}, long), api.ErrRange)
	}
}

func TestF3LastBytesThatAreNotNeeded(t *testing.T) {
	wantRead(t, []byte{0}, 0, 0, 1, api.OK)
	for place := 1; place <= 9; place++ {
		for _, filling := range []byte{128, 129, 255} {
			wantWrong(t, append(bytes.Repeat([]byte{filling}, place), 0), api.ErrForm)
		}
	}
}

// readSlowly is Read as the document says it, byte by byte, for a position in the bytes.
func readSlowly(b []byte, at int) (uint64, int, api.Errno) {
	n, unit := uint64(0), uint64(1)
	for place := 0; ; place++ {
		switch {
		case at+place >= len(b):
			return 0, 0, api.ErrShort
		case place == 9 && b[at+place] > 1:
			return 0, 0, api.ErrRange
		case place != 0 && b[at+place] == 0:
			return 0, 0, api.ErrForm
		case b[at+place] < 128:
			return n + unit*uint64(b[at+place]), at + place + 1, api.OK
		}
		n += unit * uint64(b[at+place]-128)
		unit *= 128
	}
}

// wantAsSlowly fails unless Read and All have the results that readSlowly has, and Write returns all that All takes.
func wantAsSlowly(t *testing.T, b []byte) {
	t.Helper()
	for at := range len(b) + 1 {
		n, after, err := readSlowly(b, at)
		wantRead(t, b, at, n, after, err)
	}
	var l []uint64
	for at := 0; at < len(b); {
		n, after, err := readSlowly(b, at)
		if err != api.OK {
			wantAll(t, b, nil, err)
			return
		}
		l, at = append(l, n), after
	}
	wantAll(t, b, l, api.OK)
	wantWrite(t, l, b, api.OK)
}

func TestF3AllShortLists(t *testing.T) {
	all := [][]byte{nil}
	for i := 0; len(all[i]) < 5; i++ {
		wantAsSlowly(t, all[i])
		for _, next := range []byte{0, 1, 2, 127, 128, 129, 255} {
			all = append(all, append(slices.Clip(all[i]), next))
		}
	}
	for _, b := range all {
		wantAsSlowly(t, append(bytes.Repeat([]byte{130}, 7), b...))
	}
}

func TestF3AllHasTheFirstError(t *testing.T) {
	wantAll(t, nil, nil, api.OK)
	wantAll(t, []byte{5}, []uint64{5}, api.OK)
	wantAll(t, []byte{1, 128, 1, 0, 255, 127}, []uint64{1, 128, 0, 1<<14 - 1}, api.OK)
	tooGreat := bytes.Repeat([]byte{255}, 10)
	wantAll(t, slices.Concat([]byte{1, 2, 128, 0}, tooGreat), nil, api.ErrForm)
	wantAll(t, slices.Concat([]byte{1, 2}, tooGreat, []byte{128, 0}), nil, api.ErrRange)
	wantAll(t, []byte{1, 2, 128}, nil, api.ErrShort)
	// The last of as many bytes as there may be.
	full := make([]byte, api.MaxBytes)
	full[api.MaxBytes-2] = 128
	wantAll(t, full, nil, api.ErrForm)
	full[api.MaxBytes-1] = 128
	wantAll(t, full, nil, api.ErrShort)
}

func TestF3AllReadsSeveralNumbers(t *testing.T) {
	all := numbers()
	for from := 0; from < len(all); from += 50 {
		l := all[from:min(from+300, len(all))]
		wantAll(t, sample.Varints(l...), l, api.OK)
	}
}
