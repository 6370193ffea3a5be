package length_test

import (
	"bytes"
	"math"
	"slices"
	"testing"

	"ogham/api"
	"ogham/length"
	"ogham/whole"
)

func TestCuts(t *testing.T) {
	for _, x := range []struct {
		n    int
		want []int
	}{
		{0, []int{0}}, {-1, []int{0}}, {math.MinInt, []int{0}}, {5, []int{5}}, {127, []int{127}}, {128, []int{128}}, {16383, []int{16383}},
		{16384, []int{16384, 0}}, {16385, []int{16384, 1}}, {32768, []int{32768, 0}}, {49152, []int{49152, 0}}, {65535, []int{49152, 16383}},
		{65536, []int{65536, 0}}, {70000, []int{65536, 4464}}, {131072, []int{65536, 65536, 0}}, {163840, []int{65536, 65536, 32768, 0}},
	} {
		if got := length.Cuts(x.n); !slices.Equal(got, x.want) {
			t.Errorf("P18.1: Cuts(%d): %v", x.n, got)
		}
	}
	if got := length.Cuts(math.MaxInt32); len(got) != 32769 || got[32767] != 49152 || got[32768] != 16383 {
		t.Errorf("P18.1: Cuts of 2^31 - 1: %d cuts", len(got))
	}
	length.Cuts(math.MaxInt)
}

// some is n octets.
func some(n int) []byte {
	b := make([]byte, n)
	for i := range b {
		b[i] = byte(i * 7)
	}
	return b
}

func joined(parts ...[]byte) []byte { return bytes.Join(parts, nil) }

func TestPut(t *testing.T) {
	b := some(70000)
	for _, x := range []struct {
		n    int
		want []byte
	}{
		{0, []byte{0}},
		{1, joined([]byte{1}, b[:1])},
		{127, joined([]byte{127}, b[:127])},
		{128, joined([]byte{0x80, 128}, b[:128])},
		{300, joined([]byte{0x81, 0x2c}, b[:300])},
		{16383, joined([]byte{0xbf, 0xff}, b[:16383])},
		{16384, joined([]byte{0xc1}, b[:16384], []byte{0})},
		{20000, joined([]byte{0xc1}, b[:16384], []byte{0x80 | 3616>>8, 3616 & 255}, b[16384:20000])},
		{49152, joined([]byte{0xc3}, b[:49152], []byte{0})},
		{65535, joined([]byte{0xc3}, b[:49152], []byte{0xbf, 0xff}, b[49152:65535])},
		{70000, joined([]byte{0xc4}, b[:65536], []byte{0x80 | 4464>>8, 4464 & 255}, b[65536:])},
	} {
		w := &whole.Writer{}
		length.Put(w, b[:x.n/3], nil, b[x.n/3:x.n])
		if !bytes.Equal(w.Bytes(), x.want) {
			t.Errorf("P18.1: Put of %d octets: %d bits", x.n, w.Len())
		}
		many := &whole.Writer{}
		length.PutMany(many, x.n, func(w *whole.Writer, i int) { w.Octets(b[i : i+1]) })
		if !bytes.Equal(many.Bytes(), x.want) {
			t.Errorf("P18.1: PutMany of %d items: %d bits", x.n, many.Len())
		}
		r := whole.New(x.want)
		if got := length.Take(r, x.n); !bytes.Equal(got, b[:x.n]) || r.End() != api.OK || r.Left() != 0 {
			t.Errorf("P18.2: Take of %d octets: %d, error %d", x.n, len(got), r.End())
		}
		r = whole.New(x.want)
		next := 0
		n := length.TakeMany(r, x.n, func(r *whole.Reader, i int) bool {
			ok := i == next && r.Bits(8) == uint64(b[i])
			next++
			return ok
		})
		if n != x.n || r.End() != api.OK || r.Left() != 0 {
			t.Errorf("P18.2: TakeMany of %d items: %d, error %d", x.n, n, r.End())
		}
		if x.n > 0 {
			r = whole.New(x.want)
			if got := length.Take(r, x.n-1); len(got) != 0 || r.Err() != api.ErrLimit {
				t.Errorf("P18.2: Take of %d octets with a lower limit: error %d", x.n, r.Err())
			}
			r = whole.New(x.want[:len(x.want)-1])
			if got := length.Take(r, x.n); len(got) != 0 || r.Err() != api.ErrShort {
				t.Errorf("P18.2: Take of %d octets that end: error %d", x.n, r.Err())
			}
		}
	}
}

func TestPutNothing(t *testing.T) {
	w := &whole.Writer{}
	length.Put(w)
	length.PutMany(w, 0, func(*whole.Writer, int) { t.Error("P18.1: an item of none") })
	length.PutMany(w, -5, func(*whole.Writer, int) { t.Error("P18.1: an item of less than none") })
	if !bytes.Equal(w.Bytes(), []byte{0, 0, 0}) {
		t.Errorf("P18.1: % x", w.Bytes())
	}
	length.Put(nil, []byte{1})
	length.PutMany(nil, 3, func(w *whole.Writer, i int) { w.Bits(1, 1) })
	length.PutMany(w, 3, nil)
	length.PutMany(w, 3, func(*whole.Writer, int) { panic("one") })
}

func TestUnaligned(t *testing.T) {
	w := &whole.Writer{}
	w.Bits(1, 3)
	length.Put(w, some(200))
	length.PutMany(w, 40000, func(w *whole.Writer, i int) { w.Bits(uint64(i), 3) })
	r := whole.New(w.Bytes())
	r.Bits(3)
	if got := length.Take(r, 200); !bytes.Equal(got, some(200)) {
		t.Errorf("consequence: %d octets, error %d", len(got), r.Err())
	}
	n := length.TakeMany(r, 40000, func(r *whole.Reader, i int) bool { return r.Bits(3) == uint64(i&7) })
	if n != 40000 || r.End() != api.OK {
		t.Errorf("consequence: %d items, error %d", n, r.Err())
	}
}

func TestFaults(t *testing.T) {
	long := func(head byte, n int, tail ...byte) []byte { return joined([]byte{head}, make([]byte, n), tail) }
	for i, x := range []struct {
		b    []byte
		most int
		want api.Errno
		left int // octets behind the position
	}{
		{nil, 9, api.ErrShort, 0},
		{[]byte{0x81}, 999, api.ErrShort, 1},
		{[]byte{0x80, 0x7f, 1, 2}, 999, api.ErrForm, 4},
		{[]byte{0x80, 0x00}, 999, api.ErrForm, 2},
		{[]byte{0x80, 0x80, 1}, 999, api.ErrShort, 1},
		{[]byte{0xc0, 1}, 99999, api.ErrForm, 2},
		{joined([]byte{0xc0, 0xff}, make([]byte, 255)), 99999, api.ErrForm, 257},
		{[]byte{0xc5, 1}, 99999, api.ErrForm, 2},
		{[]byte{0xff}, 99999, api.ErrForm, 1},
		{[]byte{5, 1, 2, 3, 4}, 9, api.ErrShort, 4},
		{[]byte{5, 1, 2, 3, 4}, 4, api.ErrLimit, 4},
		{[]byte{5, 1, 2, 3, 4, 5}, 4, api.ErrLimit, 5},
		{[]byte{1, 1}, 0, api.ErrLimit, 1},
		{[]byte{1, 1}, -7, api.ErrLimit, 1},
		{[]byte{0xc1, 1}, 16383, api.ErrLimit, 1},
		{[]byte{0xc1, 1}, 16384, api.ErrShort, 1},
		{long(0xc1, 16384), 99999, api.ErrShort, 0},
		{long(0xc1, 16384, 0xc1, 7), 99999, api.ErrForm, 2},
		{long(0xc3, 49152, 0xc4, 7), 999999, api.ErrForm, 2},
		{long(0xc1, 16384, 0xbf), 99999, api.ErrShort, 1},
		{long(0xc1, 16384, 1, 7), 16384, api.ErrLimit, 1},
		{long(0xc4, 65536, 0xc4, 7), 131071, api.ErrLimit, 1},
		{long(0xc4, 65536, 0xc0, 7), 131071, api.ErrForm, 2},
	} {
		r := whole.New(x.b)
		if got := length.Take(r, x.most); len(got) != 0 || r.Err() != x.want || r.Left() != 8*x.left {
			t.Errorf("P18.2: row %d: Take: error %d, %d bits left; want %d, %d", i, r.Err(), r.Left(), x.want, 8*x.left)
		}
		if got := length.Take(r, x.most); len(got) != 0 || r.Err() != x.want {
			t.Errorf("P18.2: row %d: Take after the fault", i)
		}
		r = whole.New(x.b)
		n := length.TakeMany(r, x.most, func(r *whole.Reader, i int) bool { r.Bits(8); return true })
		if n != 0 || r.Err() != x.want {
			t.Errorf("P18.2: row %d: TakeMany: %d, error %d", i, n, r.Err())
		}
	}
	r := whole.New([]byte{0, 7})
	if got := length.Take(r, -1); len(got) != 0 || r.Err() != api.OK || r.Left() != 8 {
		t.Errorf("P18.2: none of at most none: error %d", r.Err())
	}
}

func TestTakeManyEnds(t *testing.T) {
	calls := 0
	r := whole.New([]byte{5, 1, 2, 3, 4, 5})
	n := length.TakeMany(r, 9, func(r *whole.Reader, i int) bool { calls++; r.Bits(8); return i < 2 })
	if n != 0 || calls != 3 || r.Err() != api.OK || r.Left() != 16 {
		t.Errorf("P18.2: %d, %d calls, error %d", n, calls, r.Err())
	}
	r = whole.New([]byte{2, 1, 2})
	n = length.TakeMany(r, 9, func(r *whole.Reader, i int) bool {
		if i == 1 {
			r.Fail(api.ErrArg)
		}
		return true
	})
	if n != 0 || r.Err() != api.ErrArg {
		t.Errorf("P18.2: %d, error %d", n, r.Err())
	}
	if length.TakeMany(nil, 9, func(*whole.Reader, int) bool { return true }) != 0 || length.TakeMany(whole.New([]byte{1, 1}), 9, nil) != 0 || len(length.Take(nil, 9)) != 0 {
		t.Error("R1: nil")
	}
	if length.TakeMany(whole.New([]byte{1, 1}), 9, func(*whole.Reader, int) bool { panic("one") }) != 0 {
		t.Error("R1: a panic of one")
	}
}
