// Package bits is layer 1: writing and reading of bit strings, the most significant bit of each byte first.
package bits

import (
	"bytes"

	"ogham/api"
)

// wordBits is how many bits one call of Bits carries at the most.
const wordBits = 32

// Writer holds the bits that were appended so far; a zero Writer holds none.
type Writer struct {
	b []byte // the bits after the last one are zeros
	n int
}

// Bit appends one bit: 0 if v is 0, and 1 otherwise.
func (w *Writer) Bit(v int) {
	if v == 0 {
		w.Bits(0, 1)
	} else {
		w.Bits(1, 1)
	}
}

// Bits appends the n lowest bits of v, the highest of them first.
func (w *Writer) Bits(v uint32, n int) {
	if w == nil {
		return
	}
	for n = within(n, wordBits); n > 0; {
		room := 8 - w.n%8
		if room == 8 {
			w.b = append(w.b, 0)
		}
		k := min(room, n)
		piece := byte(v >> (n - k) & (1<<k - 1))
		w.b[len(w.b)-1] |= piece << (room - k)
		w.n += k
		n -= k
	}
}

// Octets appends all bits of all parts, one after another.
func (w *Writer) Octets(parts ...[]byte) {
	if w == nil {
		return
	}
	for _, part := range parts {
		if w.n%8 == 0 {
			w.b = append(w.b, part...)
			w.n += 8 * len(part)
			continue
		}
		for _, o := range part {
			w.Bits(uint32(o), 8)
		}
	}
}

// Len returns the number of bits.
func (w *Writer) Len() int {
	if w == nil {
		return 0
	}
	return w.n
}

// Bytes returns the bits, filled with zeros to whole bytes.
func (w *Writer) Bytes() []byte {
	if w == nil {
		return nil
	}
	return bytes.Clone(w.b)
}

// source is the bits that are read, and the position of the next one. A copy of it is a place to go back to.
type source struct {
	b  []byte
	at int
}

func (s *source) left() int { return 8*len(s.b) - s.at }

// next returns the number of the next n bits, which must be there.
func (s *source) next(n int) uint32 {
	var v uint32
	for n > 0 {
		room := 8 - s.at%8
		k := min(room, n)
		piece := uint32(s.b[s.at/8]) >> (room - k) & (1<<k - 1)
		v = v<<k | piece
		s.at += k
		n -= k
	}
	return v
}

// Reader reads bits from a copy of its bytes, up to the first fault.
type Reader struct {
	source
	fault api.Errno
}

// New returns a Reader of a copy of b.
func New(b []byte) *Reader {
	return &Reader{source: source{b: bytes.Clone(b)}}
}

// has reports whether the next n bits can be read; if they are not there, that is the fault from now on.
func (r *Reader) has(n int) bool {
	if r == nil || r.fault != api.OK {
		return false
	}
	if n > r.left() {
		r.fault = api.ErrShort
		return false
	}
	return true
}

// Bit returns the next bit.
func (r *Reader) Bit() int {
	return int(r.Bits(1))
}

// Bits returns the number that the next n bits denote.
func (r *Reader) Bits(n int) uint32 {
	n = within(n, wordBits)
	if !r.has(n) {
		return 0
	}
	return r.next(n)
}

// Octets returns the next 8 * n bits as bytes.
func (r *Reader) Octets(n int) []byte {
	// One octet more than there are is as bad as many more, and 8 * n stays small.
	n = within(n, r.Left()/8+1)
	if !r.has(8 * n) {
		return nil
	}
	out := make([]byte, n)
	if r.at%8 == 0 {
		copy(out, r.b[r.at/8:])
		r.at += 8 * n
		return out
	}
	for i := range out {
		out[i] = byte(r.next(8))
	}
	return out
}

// Left returns the number of bits from the position on.
func (r *Reader) Left() int {
	if r == nil {
		return 0
	}
	return r.left()
}

// Err returns the first fault.
func (r *Reader) Err() api.Errno {
	if r == nil {
		return api.ErrNil
	}
	return r.fault
}

// End returns the first fault, or whether what is left is a filling of less than a byte of zeros.
func (r *Reader) End() api.Errno {
	if e := r.Err(); e != api.OK {
		return e
	}
	rest := r.source
	if n := rest.left(); n >= 8 || rest.next(n) != 0 {
		return api.ErrForm
	}
	return api.OK
}

// within returns n, or the bound of 0 to most that it is beyond.
func within(n, most int) int {
	return min(max(n, 0), most)
}
