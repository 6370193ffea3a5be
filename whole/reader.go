package whole

import (
	"ogham/api"
	"ogham/bits"
	"ogham/bounds"
	"ogham/octets"
)

// Reader reads what a Writer wrote, up to the first fault.
type Reader struct {
	bits.Reader
	size  int // in octets
	fault api.Errno
}

// New returns a Reader of a copy of b.
func New(b []byte) *Reader {
	return &Reader{Reader: *bits.New(b), size: len(b)}
}

// trial reads one item from a copy of the bits: the Reader follows it only if the item has no fault.
type trial struct {
	bits.Reader
}

// settle lets the Reader follow a trial, or notes the fault of its item.
func (r *Reader) settle(t trial, e api.Errno) bool {
	if e != api.OK {
		r.Fail(e)
		return false
	}
	r.Reader = t.Reader
	return true
}

// ready reports whether there is something to read from.
func (r *Reader) ready() bool {
	return r != nil && r.fault == api.OK
}

// number reads a number of n bits.
func (t *trial) number(n int) (uint64, api.Errno) {
	high := uint64(t.Bits(n - 32))
	return high<<32 | uint64(t.Bits(n)), t.Err()
}

// small reads a small number.
func (t *trial) small() (int, api.Errno) {
	if t.Bit() == 0 {
		return int(t.Bits(smallBits)), t.Err()
	}
	k := int(t.Bits(8))
	if t.Err() == api.OK && (k == 0 || k > wordBits/8) {
		return 0, api.ErrForm
	}
	b := t.Octets(k)
	if e := t.Err(); e != api.OK {
		return 0, e
	}
	n, e := octets.TakeUnsigned(b)
	if e != api.OK || n < smallEnd || n > smallMost {
		return 0, api.ErrForm
	}
	return int(n), api.OK
}

// Bit returns the next bit.
func (r *Reader) Bit() int {
	return int(r.Bits(1))
}

// Bits returns the number that the next n bits denote.
func (r *Reader) Bits(n int) uint64 {
	if !r.ready() {
		return 0
	}
	t := trial{r.Reader}
	v, e := t.number(within(n, wordBits))
	if !r.settle(t, e) {
		return 0
	}
	return v
}

// Octets returns the next 8 * n bits as octets.
func (r *Reader) Octets(n int) []byte {
	if !r.ready() {
		return nil
	}
	t := trial{r.Reader}
	b := t.Octets(n)
	if !r.settle(t, t.Err()) {
		return nil
	}
	return b
}

// Between returns a number up to span.
func (r *Reader) Between(span uint64) uint64 {
	if !r.ready() {
		return 0
	}
	t := trial{r.Reader}
	v, e := t.number(bounds.Width(span))
	if e == api.OK && v > span {
		e = api.ErrForm
	}
	if !r.settle(t, e) {
		return 0
	}
	return v
}

// Small returns a number that is usually small.
func (r *Reader) Small() int {
	if !r.ready() {
		return 0
	}
	t := trial{r.Reader}
	n, e := t.small()
	if !r.settle(t, e) {
		return 0
	}
	return n
}

// Left returns the number of bits that are left.
func (r *Reader) Left() int {
	if r == nil {
		return 0
	}
	return r.Reader.Left()
}

// Err returns the first fault.
func (r *Reader) Err() api.Errno {
	if r == nil {
		return api.ErrNil
	}
	return r.fault
}

// Fail makes e the fault if there is none yet.
func (r *Reader) Fail(e api.Errno) {
	if r.ready() {
		r.fault = e
	}
}

// End returns the first fault, or whether what is left is the filling of the last octet: the one octet that stands for no bits, or less than an octet of zeros.
func (r *Reader) End() api.Errno {
	if !r.ready() {
		return r.Err()
	}
	rest := r.Reader
	if r.size == 1 && rest.Left() == 8 && rest.Bits(8) != 0 {
		return api.ErrForm
	}
	return rest.End()
}
