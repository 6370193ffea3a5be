package tlv_test

import (
	"bytes"
	"math"
	"strings"
	"testing"

	"ogham/api"
	"ogham/tlv"
)

func TestHead(t *testing.T) {
	for _, x := range []struct {
		tag    api.Tag
		made   bool
		length int
		want   string
	}{
		{api.Tag{Number: 16}, true, 5, "\x30\x05"},
		{api.Tag{Class: 2, Number: 31}, false, 200, "\x9f\x1f\x81\xc8"},
		{api.Tag{Class: 2, Number: 30}, false, 127, "\x9e\x7f"},
		{api.Tag{Class: 1, Number: 0}, false, 128, "\x40\x81\x80"},
		{api.Tag{Class: 3, Number: 127}, true, 255, "\xff\x7f\x81\xff"},
		{api.Tag{Class: 2, Number: 128}, true, 256, "\xbf\x81\x00\x82\x01\x00"},
		{api.Tag{Class: 2, Number: api.MaxTag}, false, 65536, "\x9f\x81\x80\x80\x80\x00\x83\x01\x00\x00"},
		{api.Tag{Class: 0, Number: 1}, false, math.MaxInt32, "\x01\x84\x7f\xff\xff\xff"},
		{api.Tag{Class: 6, Number: 1}, false, 0, "\x81\x00"},
		{api.Tag{Class: -1, Number: 1}, false, 0, "\xc1\x00"},
		{api.Tag{Class: -4, Number: -5}, true, -1, "\x20\x00"},
		{api.Tag{Class: math.MinInt, Number: math.MinInt}, false, math.MinInt, "\x00\x00"},
		{api.Tag{Class: math.MaxInt, Number: 2}, false, 1, "\xc2\x01"},
	} {
		if got := tlv.Head(x.tag, x.made, x.length); string(got) != x.want {
			t.Errorf("P3.1: Head(%v, %v, %d): % x; want % x", x.tag, x.made, x.length, got, x.want)
		}
	}
}

func TestHeadIsTaken(t *testing.T) {
	for class := range 4 {
		for _, number := range []int{0, 1, 30, 31, 32, 127, 128, 16383, 16384, api.MaxTag - 1, api.MaxTag} {
			for _, length := range []int{0, 1, 127, 128, 255, 256, 65535, 65536, math.MaxInt32} {
				tag, made := api.Tag{Class: class, Number: number}, length%2 == 0
				head := tlv.Head(tag, made, length)
				gotTag, gotMade, gotLength, n, e := tlv.TakeHead(append(bytes.Clone(head), 7, 7))
				if gotTag != tag || gotMade != made || gotLength != length || n != len(head) || e != api.OK {
					t.Errorf("P3.2: TakeHead(% x): %v %v %d %d, error %d", head, gotTag, gotMade, gotLength, n, e)
				}
				for k := range head {
					gotTag, gotMade, gotLength, n, e := tlv.TakeHead(head[:k])
					if e != api.ErrShort || gotTag != (api.Tag{}) || gotMade || gotLength != 0 || n != 0 {
						t.Errorf("P3.2: TakeHead(% x): error %d", head[:k], e)
					}
				}
			}
		}
	}
}

func TestTakeHeadRefuses(t *testing.T) {
	for _, x := range []struct {
		b    string
		want api.Errno
	}{
		{"", api.ErrShort},
		{"\x30", api.ErrShort},
		{"\x1f", api.ErrShort},
		{"\x1f\x80", api.ErrForm},     // longer than necessary
		{"\x1f\x1e\x00", api.ErrForm}, // a number that fits into the first octet
		{"\x1f\x00", api.ErrForm},
		{"\x1f\xff", api.ErrShort},
		{"\x9f\x81\x80\x80\x80\x01\x00", api.ErrForm}, // MaxTag + 1
		{"\x9f\x81\x80\x80\x80\x01", api.ErrForm},
		{"\x9f\xff\xff\xff\xff\xff\xff", api.ErrShort},
		{"\x9f\xff\xff\xff\xff\xff\xff\xff\xff\xff\xff\x7f", api.ErrForm},
		{"\x30\x80", api.ErrForm},
		{"\x30\x89", api.ErrForm},
		{"\x30\xff", api.ErrForm},
		{"\x30\x88\x01", api.ErrShort},
		{"\x30\x81", api.ErrShort},
		{"\x30\x82\x00", api.ErrShort},
		{"\x30\x81\x7f", api.ErrForm},
		{"\x30\x81\x00", api.ErrForm},
		{"\x30\x82\x00\xff", api.ErrForm},
		{"\x30\x84\x80\x00\x00\x00", api.ErrForm},
		{"\x30\x85\x01\x00\x00\x00\x00", api.ErrForm},
		{"\x30\x88\xff\xff\xff\xff\xff\xff\xff\xff", api.ErrForm},
	} {
		tag, made, length, n, e := tlv.TakeHead([]byte(x.b))
		if e != x.want || tag != (api.Tag{}) || made || length != 0 || n != 0 {
			t.Errorf("P3.2: TakeHead(% x): error %d; want %d", x.b, e, x.want)
		}
		tag, made, contents, n, e := tlv.Take([]byte(x.b))
		if e != x.want || tag != (api.Tag{}) || made || len(contents) != 0 || n != 0 {
			t.Errorf("P3.2: Take(% x): error %d; want %d", x.b, e, x.want)
		}
	}
}

func TestElement(t *testing.T) {
	tag := api.Tag{Class: 2, Number: 3}
	for _, x := range []struct {
		parts []string
		want  string
	}{
		{nil, "\x83\x00"},
		{[]string{"", ""}, "\x83\x00"},
		{[]string{"ab", "", "c"}, "\x83\x03abc"},
		{[]string{strings.Repeat("x", 100), strings.Repeat("y", 100)}, "\x83\x81\xc8" + strings.Repeat("x", 100) + strings.Repeat("y", 100)},
	} {
		var parts [][]byte
		for _, p := range x.parts {
			parts = append(parts, []byte(p))
		}
		got := tlv.Element(tag, false, parts...)
		if string(got) != x.want {
			t.Errorf("P3.1: Element of %q: % x", x.parts, got)
		}
		gotTag, made, contents, n, e := tlv.Take(append(bytes.Clone(got), 9))
		if gotTag != tag || made || string(contents) != strings.Join(x.parts, "") || n != len(got) || e != api.OK {
			t.Errorf("P3.2: Take of the element of %q: %v %v % x %d, error %d", x.parts, gotTag, made, contents, n, e)
		}
	}
	if got := tlv.Element(api.Tag{Number: 17}, true, []byte{5, 0}); string(got) != "\x31\x02\x05\x00" {
		t.Errorf("P3.1: a constructed element: % x", got)
	}
}

func TestTakeContents(t *testing.T) {
	if _, _, _, n, e := tlv.Take([]byte("\x04\x03ab")); n != 0 || e != api.ErrShort {
		t.Errorf("P3.2: Take of contents that end: error %d", e)
	}
	if _, _, _, _, e := tlv.Take([]byte("\x04\x84\x7f\xff\xff\xffab")); e != api.ErrShort {
		t.Errorf("P3.2: Take of a great length: error %d", e)
	}
	b := []byte("\x24\x02ab")
	tag, made, contents, n, e := tlv.Take(b)
	if tag != (api.Tag{Number: 4}) || !made || n != 4 || e != api.OK {
		t.Errorf("P3.2: Take(% x): %v %v %d, error %d", b, tag, made, n, e)
	}
	contents[0] = 'x'
	if b[2] != 'a' {
		t.Error("R3: the contents are those of the argument")
	}
}

func TestHeadsAreWrittenInOneWay(t *testing.T) {
	for n := range 1 << 16 {
		b := []byte{byte(n >> 8), byte(n), 0x81, 0x80, 0x80}
		tag, made, length, k, e := tlv.TakeHead(b)
		if e == api.OK && !bytes.Equal(tlv.Head(tag, made, length), b[:k]) {
			t.Fatalf("consequence: the head % x is read as %v %v %d", b[:k], tag, made, length)
		}
	}
}
