package bits_test

import (
	"bytes"
	"math"
	"testing"

	"ogham/api"
	"ogham/bits"
)

func TestWriterExample(t *testing.T) {
	w := &bits.Writer{}
	w.Bits(5, 3)
	w.Octets([]byte{0xff})
	if w.Len() != 11 || !bytes.Equal(w.Bytes(), []byte{0xbf, 0xe0}) {
		t.Errorf("P1.1: %d bits, % x", w.Len(), w.Bytes())
	}
}

func TestWriterBits(t *testing.T) {
	for _, x := range []struct {
		v    uint32
		n    int
		size int
		want string
	}{
		{5, 3, 3, "\xa0"},
		{0xfffffffd, 3, 3, "\xa0"},
		{1, 0, 0, ""},
		{1, -1, 0, ""},
		{1, math.MinInt, 0, ""},
		{0x12345678, 32, 32, "\x12\x34\x56\x78"},
		{0x12345678, 33, 32, "\x12\x34\x56\x78"},
		{0x12345678, math.MaxInt, 32, "\x12\x34\x56\x78"},
		{0x12345678, 31, 31, "\x24\x68\xac\xf0"},
	} {
		w := &bits.Writer{}
		w.Bits(x.v, x.n)
		if w.Len() != x.size || string(w.Bytes()) != x.want {
			t.Errorf("P1.1: Bits(%x, %d): %d bits, % x", x.v, x.n, w.Len(), w.Bytes())
		}
	}
}

func TestWriterBit(t *testing.T) {
	w := &bits.Writer{}
	for _, v := range []int{1, 0, 2, -1, 0, math.MinInt, math.MaxInt, 0, 4} {
		w.Bit(v)
	}
	if w.Len() != 9 || !bytes.Equal(w.Bytes(), []byte{0xb6, 0x80}) {
		t.Errorf("P1.1: Bit: %d bits, % x", w.Len(), w.Bytes())
	}
}

func TestWriterOctets(t *testing.T) {
	w := &bits.Writer{}
	w.Octets()
	w.Octets(nil, []byte{}, nil)
	if w.Len() != 0 || len(w.Bytes()) != 0 {
		t.Errorf("P1.1: no octets: %d bits", w.Len())
	}
	w.Octets([]byte{1, 2}, nil, []byte{3})
	w.Bit(1)
	w.Octets([]byte{0x80, 0x01}, []byte{0xff})
	if w.Len() != 49 || !bytes.Equal(w.Bytes(), []byte{1, 2, 3, 0xc0, 0x00, 0xff, 0x80}) {
		t.Errorf("P1.1: %d bits, % x", w.Len(), w.Bytes())
	}
}

func TestWriterIsApart(t *testing.T) {
	part := make([]byte, 2, 9)
	w := &bits.Writer{}
	w.Octets(part)
	w.Bits(0xff, 8)
	if part[:3][2] != 0 {
		t.Error("R3: the spare capacity of a part is written to")
	}
	part[0] = 7
	if w.Bytes()[0] != 0 {
		t.Error("R3: a part is kept")
	}
	w.Bytes()[1] = 9
	if w.Bytes()[1] != 0 {
		t.Error("R3: a result is kept")
	}
}

func TestNilWriter(t *testing.T) {
	var w *bits.Writer
	w.Bit(1)
	w.Bits(3, 2)
	w.Octets([]byte{1})
	if w.Len() != 0 || len(w.Bytes()) != 0 {
		t.Error("P1.1: a nil writer has bits")
	}
}

func TestReaderReads(t *testing.T) {
	r := bits.New([]byte{0xbf, 0xe5, 0x12, 0x34, 0x56, 0x78, 0x9a})
	if v := r.Bits(3); v != 5 {
		t.Errorf("P1.2: Bits(3): %d", v)
	}
	if b := r.Octets(1); !bytes.Equal(b, []byte{0xff}) {
		t.Errorf("P1.2: Octets(1): % x", b)
	}
	if v := r.Bit(); v != 0 {
		t.Errorf("P1.2: Bit: %d", v)
	}
	if v := r.Bits(4); v != 5 {
		t.Errorf("P1.2: Bits(4): %d", v)
	}
	if b := r.Octets(2); !bytes.Equal(b, []byte{0x12, 0x34}) {
		t.Errorf("P1.2: Octets(2): % x", b)
	}
	if r.Left() != 24 || r.Err() != api.OK {
		t.Errorf("P1.3: %d left, error %d", r.Left(), r.Err())
	}
}

func TestReaderLimitsOfN(t *testing.T) {
	r := bits.New([]byte{0x80, 0, 0, 1, 0xff})
	if r.Bits(-1) != 0 || r.Bits(0) != 0 || r.Bits(math.MinInt) != 0 || len(r.Octets(-1)) != 0 || len(r.Octets(0)) != 0 || r.Left() != 40 {
		t.Errorf("P1.2: reading of nothing: %d left, error %d", r.Left(), r.Err())
	}
	if v := r.Bits(math.MaxInt); v != 0x80000001 || r.Left() != 8 {
		t.Errorf("P1.2: Bits of more than 32: %x, %d left", v, r.Left())
	}
	if v := r.Bits(33); v != 0 || r.Err() != api.ErrShort || r.Left() != 8 {
		t.Errorf("P1.2: Bits of more than there are: %x, error %d", v, r.Err())
	}
}

func TestReaderFaults(t *testing.T) {
	for i, read := range []func(r *bits.Reader) bool{
		func(r *bits.Reader) bool { return r.Bits(6) == 0 },
		func(r *bits.Reader) bool { return r.Bits(32) == 0 },
		func(r *bits.Reader) bool { return len(r.Octets(1)) == 0 },
		func(r *bits.Reader) bool { return len(r.Octets(math.MaxInt)) == 0 },
		func(r *bits.Reader) bool { return len(r.Octets(1<<60+1)) == 0 },
	} {
		r := bits.New([]byte{0xff})
		r.Bits(3)
		if !read(r) || r.Err() != api.ErrShort || r.Left() != 5 {
			t.Errorf("P1.3: row %d: error %d, %d left", i, r.Err(), r.Left())
		}
		if r.Bit() != 0 || r.Bits(2) != 0 || r.Left() != 5 || r.End() != api.ErrShort {
			t.Errorf("P1.3: row %d: a read after the fault", i)
		}
	}
	r := bits.New([]byte{1, 2})
	if len(r.Octets(3)) != 0 || len(r.Octets(1)) != 0 || r.Left() != 16 {
		t.Error("P1.3: octets after the fault")
	}
	r = bits.New([]byte{1})
	r.Bits(8)
	if r.Bit() != 0 || r.Err() != api.ErrShort {
		t.Errorf("P1.2: Bit at the end: error %d", r.Err())
	}
}

func TestReaderManyOctets(t *testing.T) {
	b := make([]byte, 40)
	for i := range b {
		b[i] = byte(i + 1)
	}
	r := bits.New(b)
	if got := r.Octets(8); !bytes.Equal(got, b[:8]) {
		t.Errorf("P1.2: Octets(8): % x", got)
	}
	if got := r.Octets(32); !bytes.Equal(got, b[8:]) || r.Left() != 0 || r.Err() != api.OK {
		t.Errorf("P1.2: Octets(32): % x, error %d", got, r.Err())
	}
	for shift := range 9 {
		r := bits.New(b)
		r.Bits(shift)
		if got := r.Octets(41 - (shift+7)/8); len(got) != 0 || r.Err() != api.ErrShort || r.Left() != 320-shift {
			t.Errorf("P1.2: one octet too many after %d bits: error %d, %d left", shift, r.Err(), r.Left())
		}
		r = bits.New(b)
		r.Bits(shift)
		if got := r.Octets(40 - (shift+7)/8); len(got) != 40-(shift+7)/8 || r.Err() != api.OK {
			t.Errorf("P1.2: all octets after %d bits: %d, error %d", shift, len(got), r.Err())
		}
	}
}

func TestReaderEnd(t *testing.T) {
	for _, x := range []struct {
		b    string
		read int
		want api.Errno
	}{
		{"", 0, api.OK},
		{"\x00", 0, api.ErrForm},
		{"\x00", 1, api.OK},
		{"\x01", 1, api.ErrForm},
		{"\x01", 7, api.ErrForm},
		{"\x01", 8, api.OK},
		{"\x40", 1, api.ErrForm},
		{"\xf0\x00", 8, api.ErrForm},
		{"\xf0\x00", 7, api.ErrForm},
		{"\xf0\x00", 9, api.OK},
		{"\xf0", 9, api.ErrShort},
	} {
		r := bits.New([]byte(x.b))
		r.Bits(x.read)
		left := r.Left()
		if e := r.End(); e != x.want || r.Left() != left {
			t.Errorf("P1.3: End of % x after %d bits: error %d; want %d", x.b, x.read, e, x.want)
		}
	}
}

func TestReaderIsApart(t *testing.T) {
	b := []byte{1, 2, 3}
	r := bits.New(b)
	b[0] = 9
	got := r.Octets(1)
	if got[0] != 1 {
		t.Error("R3: the bytes are kept")
	}
	got[0] = 7
	if x := append(got, 5); x[1] != 5 || !bytes.Equal(r.Octets(1), []byte{2}) {
		t.Error("R3: the octets are those of the reader")
	}
}

func TestNilReader(t *testing.T) {
	var r *bits.Reader
	if r.Bit() != 0 || r.Bits(3) != 0 || len(r.Octets(2)) != 0 || r.Left() != 0 {
		t.Error("P1.3: a nil reader reads")
	}
	if r.Err() != api.ErrNil || r.End() != api.ErrNil {
		t.Errorf("P1.3: a nil reader: error %d", r.Err())
	}
}

// Reader stands embedded in this type, as the layers above have it.
type pairs struct{ *bits.Reader }

func (p pairs) pair() (int, uint32) { return p.Bit(), p.Bits(7) }

func TestWrittenIsRead(t *testing.T) {
	for shift := range 9 {
		w := &bits.Writer{}
		w.Bits(0, shift)
		for i := range 300 {
			w.Bit(i % 2)
			w.Bits(uint32(i), 7)
		}
		p := pairs{bits.New(w.Bytes())}
		p.Bits(shift)
		for i := range 300 {
			if a, b := p.pair(); a != i%2 || b != uint32(i%128) {
				t.Fatalf("consequence: shift %d, number %d: %d %d", shift, i, a, b)
			}
		}
		if p.End() != api.OK {
			t.Errorf("consequence: shift %d: error %d at the end", shift, p.End())
		}
	}
}
