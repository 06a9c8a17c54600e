package load

import (
	"bytes"
	"slices"
	"testing"

	"lampwright/api"
)

// No graph has a file with too many bytes, so that this error is that of the function inside.
func TestS1ErrManyAtTheEdge(t *testing.T) {
	const head = 3
	for _, numbers := range [][]uint64{nil, {0}, {1, 2, 3}, {128, 1 << 14}} {
		room := api.MaxBytes - head - len(numbers)
		if len(numbers) == 2 {
			// These need two bytes and three.
			room -= 3
		}
		for more := -2; more < 3; more++ {
			want := api.OK
			if more > 0 {
				want = api.ErrMany
			}
			wantLong(t, numbers, make([]byte, room+more), want)
			wantLong(t, append(slices.Clone(numbers), make([]uint64, room+more)...), nil, want)
		}
	}
	wantLong(t, make([]uint64, 2*api.MaxBytes), nil, api.ErrMany)
	wantLong(t, nil, make([]byte, 2*api.MaxBytes), api.ErrMany)
}

// wantLong fails unless the file with these numbers and bytes has as many bytes as there may be or less, or has this error.
func wantLong(t *testing.T, numbers []uint64, end []byte, want api.Errno) {
	t.Helper()
	b, err := fileOf(api.KindBits, numbers, end)
	if err != want || err != api.OK && len(b) > 0 || err == api.OK && (len(b) > api.MaxBytes || !bytes.HasPrefix(b, []byte("LW\x02"))) {
		t.Errorf("%d numbers and %d bytes: %d bytes, error %d, must be %d", len(numbers), len(end), len(b), err, want)
	}
}
