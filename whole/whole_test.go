package whole_test

import (
	"bytes"
	"math"
	"testing"

	"ogham/api"
	"ogham/whole"
)

func TestExample(t *testing.T) {
	w := &whole.Writer{}
	w.Between(5, 7)
	w.Small(5)
	w.Between(9, 0)
	w.Between(9, 4)
	if w.Len() != 13 || !bytes.Equal(w.Bytes(), []byte{0xa1, 0x60}) {
		t.Errorf("P17.1: %d bits, % x", w.Len(), w.Bytes())
	}
}

func TestWriter(t *testing.T) {
	for i, x := range []struct {
		put  func(w *whole.Writer)
		n    int
		want string
	}{
		{func(w *whole.Writer) {}, 0, "\x00"},
		{func(w *whole.Writer) { w.Bits(5, 3) }, 3, "\xa0"},
		{func(w *whole.Writer) { w.Bits(5, -1); w.Bits(5, 0); w.Bits(5, math.MinInt) }, 0, "\x00"},
		{func(w *whole.Writer) { w.Bits(0x0123456789abcdef, 64) }, 64, "\x01\x23\x45\x67\x89\xab\xcd\xef"},
		{func(w *whole.Writer) { w.Bits(0x0123456789abcdef, 99) }, 64, "\x01\x23\x45\x67\x89\xab\xcd\xef"},
		{func(w *whole.Writer) { w.Bits(0x0123456789abcdef, 36) }, 36, "\x78\x9a\xbc\xde\xf0"},
		{func(w *whole.Writer) { w.Bits(0x0123456789abcdef, 32) }, 32, "\x89\xab\xcd\xef"},
		{func(w *whole.Writer) { w.Bits(1, 1); w.Octets([]byte{0xff, 0x01}); w.Octets(nil) }, 17, "\xff\x80\x80"},
		{func(w *whole.Writer) { w.Between(3, 3) }, 2, "\xc0"},
		{func(w *whole.Writer) { w.Between(0, 255) }, 8, "\x00"},
		{func(w *whole.Writer) { w.Between(4, 256) }, 9, "\x02\x00"},
		{func(w *whole.Writer) { w.Between(5, 0) }, 0, "\x00"},
		{func(w *whole.Writer) { w.Between(300, 256) }, 9, "\x80\x00"},
		{func(w *whole.Writer) { w.Between(math.MaxUint64, math.MaxUint64) }, 64, "\xff\xff\xff\xff\xff\xff\xff\xff"},
		{func(w *whole.Writer) { w.Small(0) }, 7, "\x00"},
		{func(w *whole.Writer) { w.Small(-9) }, 7, "\x00"},
		{func(w *whole.Writer) { w.Small(63) }, 7, "\x7e"},
		{func(w *whole.Writer) { w.Small(64) }, 17, "\x80\xa0\x00"},
		{func(w *whole.Writer) { w.Small(255) }, 17, "\x80\xff\x80"},
		{func(w *whole.Writer) { w.Small(256) }, 25, "\x81\x00\x80\x00"},
		{func(w *whole.Writer) { w.Small(math.MaxInt) }, 73, "\x84\x3f\xff\xff\xff\xff\xff\xff\xff\x80"},
	} {
		w := &whole.Writer{}
		x.put(w)
		if w.Len() != x.n || string(w.Bytes()) != x.want {
			t.Errorf("P17.1: row %d: %d bits, % x; want % x", i, w.Len(), w.Bytes(), x.want)
		}
	}
	var none *whole.Writer
	none.Bits(1, 1)
	none.Octets([]byte{1})
	none.Between(1, 2)
	none.Small(3)
	none.Small(300)
	none.Bit(1)
	if none.Len() != 0 || len(none.Bytes()) != 0 {
		t.Error("P17.1: a nil writer")
	}
	w := &whole.Writer{}
	w.Bits(1, 8)
	w.Bytes()[0] = 9
	if w.Bytes()[0] != 1 {
		t.Error("R3: Bytes is written to")
	}
}

func TestWrittenIsRead(t *testing.T) {
	spans := []uint64{0, 1, 2, 7, 8, 255, 256, 1<<32 - 1, 1 << 32, math.MaxInt64, math.MaxUint64}
	smalls := []int{0, 1, 63, 64, 65, 127, 128, 255, 256, 999, 10000}
	for shift := range 9 {
		w := &whole.Writer{}
		w.Bits(0, shift)
		for _, s := range spans {
			w.Between(s/2, s)
			w.Between(s, s)
			w.Bits(s, 64)
		}
		for _, n := range smalls {
			w.Small(n)
			w.Bits(uint64(n), 33)
			w.Octets([]byte{1, byte(n)})
		}
		r := whole.New(w.Bytes())
		r.Bits(shift)
		for _, s := range spans {
			if a, b, c := r.Between(s), r.Between(s), r.Bits(64); a != s/2 || b != s || c != s {
				t.Errorf("P17.2: span %d: %d %d %d", s, a, b, c)
			}
		}
		for _, n := range smalls {
			if a, b, c := r.Small(), r.Bits(33), r.Octets(2); a != n || b != uint64(n) || !bytes.Equal(c, []byte{1, byte(n)}) {
				t.Errorf("P17.2: small %d: %d %d % x", n, a, b, c)
			}
		}
		if r.End() != api.OK || r.Err() != api.OK {
			t.Errorf("consequence: shift %d: error %d at the end", shift, r.End())
		}
	}
}

func TestReaderFaults(t *testing.T) {
	bits := func(n int) func(r *whole.Reader) bool { return func(r *whole.Reader) bool { return r.Bits(n) == 0 } }
	octets := func(n int) func(r *whole.Reader) bool {
		return func(r *whole.Reader) bool { return len(r.Octets(n)) == 0 }
	}
	between := func(s uint64) func(r *whole.Reader) bool {
		return func(r *whole.Reader) bool { return r.Between(s) == 0 }
	}
	small := func(r *whole.Reader) bool { return r.Small() == 0 }
	for i, x := range []struct {
		b    string
		read func(r *whole.Reader) bool
		want api.Errno
	}{
		{"\x1f", bits(6), api.ErrShort},
		{"\x1f\xff\xff\xff\xff", bits(64), api.ErrShort},
		{"\x1f\xff\xff\xff\xff", bits(38), api.ErrShort},
		{"\x1f\xff", octets(2), api.ErrShort},
		{"\x1f\xff", octets(math.MaxInt), api.ErrShort},
		{"\x1f", between(63), api.ErrShort},
		{"\x1f", between(32), api.ErrShort},
		{"\x1f", between(16), api.ErrForm},
		{"\x1f", between(30), api.ErrForm},
		{"\x1f\xff\xff\xff\xff\xff\xff\xff\xff", between(math.MaxUint64 - 1), api.ErrForm},
		{"\x0f", small, api.ErrShort},
		{"\x10", small, api.ErrShort},
		{"\x10\x0f\xff", small, api.ErrForm},     // a length of 0
		{"\x10\x9f", small, api.ErrForm},         // a length of 9 with nothing behind it
		{"\x1f\xf0", small, api.ErrForm},         // a length of 255
		{"\x10\x1f", small, api.ErrShort},        // one octet that is not there
		{"\x10\x13\xf0", small, api.ErrForm},     // 63
		{"\x10\x20\x04\x00", small, api.ErrForm}, // 64 in two octets
		{"\x10\x22\x71\x10", small, api.ErrForm}, // 10,001
		{"\x10\x31\x00\x00\x00", small, api.ErrForm},
		{"\x10\x87\xff\xff\xff\xff\xff\xff\xff\xf0", small, api.ErrForm},
		{"\x10\x87\xff", small, api.ErrShort},
	} {
		r := whole.New([]byte(x.b))
		r.Bits(3)
		left := r.Left()
		if !x.read(r) || r.Err() != x.want || r.Left() != left {
			t.Errorf("P17.2: row %d: error %d, %d of %d left; want %d", i, r.Err(), r.Left(), left, x.want)
		}
		if r.Bits(2) != 0 || len(r.Octets(1)) != 0 || r.Between(1) != 0 || r.Small() != 0 || r.Bit() != 0 || r.Left() != left || r.End() != x.want {
			t.Errorf("P17.2: row %d: a read after the fault", i)
		}
		r.Fail(api.ErrArg)
		if r.Err() != x.want {
			t.Errorf("P17.2: row %d: another fault", i)
		}
	}
	r := whole.New([]byte("\x10\x22\x71\x00"))
	r.Bits(3)
	if n := r.Small(); n != 10000 || r.End() != api.OK {
		t.Errorf("P17.2: Small: %d, error %d", n, r.End())
	}
}

func TestFail(t *testing.T) {
	r := whole.New([]byte{0xff})
	r.Fail(api.OK)
	if r.Err() != api.OK || r.Bits(1) != 1 {
		t.Error("P17.2: Fail(OK) has an effect")
	}
	r.Fail(api.ErrLimit)
	r.Fail(api.ErrTag)
	if r.Err() != api.ErrLimit || r.End() != api.ErrLimit || r.Bits(1) != 0 || r.Left() != 7 {
		t.Errorf("P17.2: Fail: error %d", r.Err())
	}
	var none *whole.Reader
	none.Fail(api.ErrTag)
	if none.Err() != api.ErrNil || none.End() != api.ErrNil || none.Bits(1) != 0 || len(none.Octets(1)) != 0 || none.Between(3) != 0 || none.Small() != 0 || none.Left() != 0 || none.Bit() != 0 {
		t.Error("P17.2: a nil reader")
	}
}

func TestEnd(t *testing.T) {
	for _, x := range []struct {
		b    string
		read int
		want api.Errno
	}{
		{"", 0, api.OK},
		{"\x00", 0, api.OK},
		{"\x80", 0, api.ErrForm},
		{"\x01", 0, api.ErrForm},
		{"\x00", 1, api.OK},
		{"\x00", 8, api.OK},
		{"\x81", 1, api.ErrForm},
		{"\x80", 1, api.OK},
		{"\x00\x00", 0, api.ErrForm},
		{"\x00\x00", 8, api.ErrForm},
		{"\x00\x00", 9, api.OK},
		{"\x00\x01", 9, api.ErrForm},
		{"\x00", 9, api.ErrShort},
	} {
		r := whole.New([]byte(x.b))
		r.Bits(x.read)
		left := r.Left()
		if e := r.End(); e != x.want || r.Left() != left {
			t.Errorf("P17.2: End of % x after %d bits: error %d; want %d", x.b, x.read, e, x.want)
		}
	}
}

func TestReaderLimitsOfN(t *testing.T) {
	b := []byte{1, 2, 3, 4, 5, 6, 7, 8, 9}
	r := whole.New(b)
	b[0] = 9
	if r.Bits(-1) != 0 || r.Bits(math.MinInt) != 0 || len(r.Octets(-1)) != 0 || r.Between(0) != 0 || r.Left() != 72 {
		t.Error("P17.2: reading of nothing")
	}
	if v := r.Bits(99); v != 0x0102030405060708 || r.Left() != 8 {
		t.Errorf("P17.2: Bits of more than 64: %x", v)
	}
	if o := r.Octets(1); !bytes.Equal(o, []byte{9}) || r.Left() != 0 {
		t.Errorf("P17.2: Octets: % x", o)
	}
}
