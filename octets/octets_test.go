package octets_test

import (
	"bytes"
	"math"
	"testing"

	"ogham/api"
	"ogham/octets"
)

func TestSigned(t *testing.T) {
	for _, x := range []struct {
		v    int64
		want string
	}{
		{0, "\x00"}, {1, "\x01"}, {-1, "\xff"}, {127, "\x7f"}, {128, "\x00\x80"}, {-128, "\x80"}, {-129, "\xff\x7f"},
		{255, "\x00\xff"}, {256, "\x01\x00"}, {-256, "\xff\x00"}, {32767, "\x7f\xff"}, {32768, "\x00\x80\x00"}, {-32769, "\xff\x7f\xff"},
		{math.MaxInt64, "\x7f\xff\xff\xff\xff\xff\xff\xff"}, {math.MinInt64, "\x80\x00\x00\x00\x00\x00\x00\x00"},
		{1<<55 - 1, "\x7f\xff\xff\xff\xff\xff\xff"}, {1 << 55, "\x00\x80\x00\x00\x00\x00\x00\x00"},
	} {
		if got := octets.Signed(x.v); string(got) != x.want {
			t.Errorf("P2.1: Signed(%d): % x", x.v, got)
		}
		if v, e := octets.TakeSigned([]byte(x.want)); v != x.v || e != api.OK {
			t.Errorf("P2.2: TakeSigned(% x): %d, error %d", x.want, v, e)
		}
	}
}

func TestUnsigned(t *testing.T) {
	for _, x := range []struct {
		v    uint64
		want string
	}{
		{0, "\x00"}, {1, "\x01"}, {127, "\x7f"}, {128, "\x80"}, {255, "\xff"}, {256, "\x01\x00"}, {65535, "\xff\xff"}, {65536, "\x01\x00\x00"},
		{1 << 56, "\x01\x00\x00\x00\x00\x00\x00\x00"}, {math.MaxUint64, "\xff\xff\xff\xff\xff\xff\xff\xff"},
	} {
		if got := octets.Unsigned(x.v); string(got) != x.want {
			t.Errorf("P2.1: Unsigned(%d): % x", x.v, got)
		}
		if v, e := octets.TakeUnsigned([]byte(x.want)); v != x.v || e != api.OK {
			t.Errorf("P2.2: TakeUnsigned(% x): %d, error %d", x.want, v, e)
		}
	}
}

func TestGroups(t *testing.T) {
	for _, x := range []struct {
		v    uint64
		want string
	}{
		{0, "\x00"}, {1, "\x01"}, {127, "\x7f"}, {128, "\x81\x00"}, {300, "\x82\x2c"}, {16383, "\xff\x7f"}, {16384, "\x81\x80\x00"},
		{1<<63 - 1, "\xff\xff\xff\xff\xff\xff\xff\xff\x7f"}, {1 << 63, "\x81\x80\x80\x80\x80\x80\x80\x80\x80\x00"},
		{math.MaxUint64, "\x81\xff\xff\xff\xff\xff\xff\xff\xff\x7f"},
	} {
		if got := octets.Groups(x.v); string(got) != x.want {
			t.Errorf("P2.1: Groups(%d): % x", x.v, got)
		}
		for _, tail := range []string{"", "\x00", "\xff\xff"} {
			v, n, e := octets.TakeGroups([]byte(x.want + tail))
			if v != x.v || n != len(x.want) || e != api.OK {
				t.Errorf("P2.2: TakeGroups(% x): %d, %d octets, error %d", x.want+tail, v, n, e)
			}
		}
	}
}

func TestTakeSignedRefuses(t *testing.T) {
	for _, x := range []struct {
		b    string
		want api.Errno
	}{
		{"", api.ErrShort}, {"\x00\x00", api.ErrForm}, {"\x00\x7f", api.ErrForm}, {"\xff\x80", api.ErrForm}, {"\xff\xff", api.ErrForm},
		{"\x00\x80\x00\x00\x00\x00\x00\x00\x00", api.ErrForm}, {"\xff\x7f\xff\xff\xff\xff\xff\xff\xff", api.ErrForm},
		{"\x00\x00\x00\x00\x00\x00\x00\x00\x01", api.ErrForm}, {"\x01\x00\x00\x00\x00\x00\x00\x00\x00", api.ErrForm},
		{"\x00\x7f\xff\xff\xff\xff\xff\xff", api.ErrForm},
	} {
		if v, e := octets.TakeSigned([]byte(x.b)); v != 0 || e != x.want {
			t.Errorf("P2.2: TakeSigned(% x): %d, error %d; want %d", x.b, v, e, x.want)
		}
	}
}

func TestTakeUnsignedRefuses(t *testing.T) {
	for _, x := range []struct {
		b    string
		want api.Errno
	}{
		{"", api.ErrShort}, {"\x00\x00", api.ErrForm}, {"\x00\x01", api.ErrForm}, {"\x00\x80", api.ErrForm},
		{"\x01\x00\x00\x00\x00\x00\x00\x00\x00", api.ErrForm}, {"\x00\xff\xff\xff\xff\xff\xff\xff\xff", api.ErrForm},
	} {
		if v, e := octets.TakeUnsigned([]byte(x.b)); v != 0 || e != x.want {
			t.Errorf("P2.2: TakeUnsigned(% x): %d, error %d; want %d", x.b, v, e, x.want)
		}
	}
}

func TestTakeGroupsRefuses(t *testing.T) {
	for _, x := range []struct {
		b    string
		want api.Errno
	}{
		{"", api.ErrShort}, {"\x81", api.ErrShort}, {"\xff\xff", api.ErrShort}, {"\x80", api.ErrForm}, {"\x80\x01", api.ErrForm},
		{"\x81\x80\x80\x80\x80\x80\x80\x80\x80", api.ErrShort},
		// Nine octets of more than 57 bits: the tenth is the one that is too many, and it is examined only if it is there.
		{"\x82\x80\x80\x80\x80\x80\x80\x80\x80", api.ErrShort},
		{"\x82\x80\x80\x80\x80\x80\x80\x80\x80\x00", api.ErrForm},
		{"\x82\x80\x80\x80\x80\x80\x80\x80\x80\x80", api.ErrForm},
		{"\xff\xff\xff\xff\xff\xff\xff\xff\xff\xff\x7f", api.ErrForm},
	} {
		if v, n, e := octets.TakeGroups([]byte(x.b)); v != 0 || n != 0 || e != x.want {
			t.Errorf("P2.2: TakeGroups(% x): %d, %d octets, error %d; want %d", x.b, v, n, e, x.want)
		}
	}
}

func TestCompare(t *testing.T) {
	ordered := []string{"", "\x00", "\x00\x00", "\x00\x01", "\x01", "\x7f\xff", "\x80", "\xff", "\xff\x00"}
	for i, a := range ordered {
		for k, b := range ordered {
			want := 0
			if i < k {
				want = -1
			} else if i > k {
				want = 1
			}
			if got := octets.Compare([]byte(a), []byte(b)); got != want {
				t.Errorf("P2.1: Compare(% x, % x): %d", a, b, got)
			}
		}
	}
	if octets.Compare(nil, []byte{}) != 0 {
		t.Error("R3: nil and empty differ")
	}
}

func TestJoin(t *testing.T) {
	if len(octets.Join()) != 0 || len(octets.Join(nil, nil)) != 0 {
		t.Error("P2.1: Join of nothing")
	}
	room := make([]byte, 1, 8)
	got := octets.Join(room, nil, []byte{1, 2}, []byte{3})
	if !bytes.Equal(got, []byte{0, 1, 2, 3}) || room[:2][1] != 0 {
		t.Errorf("P2.1: Join: % x; R3: behind the part: %d", got, room[:2][1])
	}
	one := octets.Join(room)
	one[0] = 5
	if room[0] != 0 {
		t.Error("R3: Join of one part is the part")
	}
}

func TestEveryShortStringIsReadOnce(t *testing.T) {
	for n := range 1 << 16 {
		b := []byte{byte(n >> 8), byte(n)}
		if v, e := octets.TakeSigned(b); e == api.OK && !bytes.Equal(octets.Signed(v), b) {
			t.Fatalf("consequence: TakeSigned(% x): %d", b, v)
		}
		if v, e := octets.TakeUnsigned(b); e == api.OK && !bytes.Equal(octets.Unsigned(v), b) {
			t.Fatalf("consequence: TakeUnsigned(% x): %d", b, v)
		}
		if v, k, e := octets.TakeGroups(b); e == api.OK && !bytes.Equal(octets.Groups(v), b[:k]) {
			t.Fatalf("consequence: TakeGroups(% x): %d", b, v)
		}
		if v := int64(int16(n)); func() bool { got, e := octets.TakeSigned(octets.Signed(v)); return got != v || e != api.OK }() {
			t.Fatalf("consequence: Signed(%d) is not read", v)
		}
	}
}
