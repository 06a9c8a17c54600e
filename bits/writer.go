package bits

import "lampwright/api"

// writer appends to bits whose memory is its own.
type writer struct {
	api.Bits
}

// copyOf returns a writer that goes on after b. The bytes are copied because appending
// in place could write into memory that the caller has behind the length of its slice.
func copyOf(b api.Bits) writer {
	return writer{api.Bits{Len: b.Len, Bytes: append([]byte(nil), b.Bytes...)}}
}

func (w *writer) addBit(bit byte) {
	if w.Len%8 == 0 {
		w.Bytes = append(w.Bytes, 0)
	}
	w.Bytes[w.Len/8] |= bit << (7 - w.Len%8)
	w.Len++
}

func (w *writer) addBits(b api.Bits, from, to int) {
	for bit := range bitsOf(b, from, to) {
		w.addBit(bit)
	}
}
