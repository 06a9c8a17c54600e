package sample

import "lampwright/api"

// T is what is needed of a test; package testing itself is for test files.
type T interface {
	Helper()
	Errorf(format string, args ...any)
}

// WantBits fails unless the result is the bits of the text, or an error and no bits.
func WantBits(t T, call string, got api.Bits, err api.Errno, text string, wantErr api.Errno) {
	t.Helper()
	if err != wantErr || !Same(got, text) {
		t.Errorf("%s: %v %d, must be %q %d", call, got, err, text, wantErr)
	}
}

// Reader returns the number whose code begins at a position, and the position after the code.
type Reader func(b api.Bits, at int) (uint64, int, api.Errno)

// WantRead fails unless the reader has these results.
func WantRead(t T, call string, read Reader, b api.Bits, at int, n uint64, after int, err api.Errno) {
	t.Helper()
	gotN, gotAfter, gotErr := read(b, at)
	if gotN != n || gotAfter != after || gotErr != err {
		t.Errorf("%s of %d bits at %d: %d %d %d, must be %d %d %d", call, b.Len, at, gotN, gotAfter, gotErr, n, after, err)
	}
}
