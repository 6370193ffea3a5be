package uperin_test

import (
	"encoding/hex"
	"math/rand"
	"reflect"
	"strconv"
	"strings"
	"testing"

	"ogham/api"
	"ogham/note"
	"ogham/same"
	"ogham/syntax"
	"ogham/table"
	"ogham/uper"
	"ogham/uperin"
)

// made is the table of a module whose first name, A, is this type.
func made(t *testing.T, text string) api.Table {
	t.Helper()
	m, at, e := syntax.Parse("M DEFINITIONS AUTOMATIC TAGS ::= BEGIN A ::= " + text + " END")
	if e != api.OK {
		t.Fatalf("Parse of %s: error %d at %d", text, e, at)
	}
	x, _, e := table.Make(m)
	if e != api.OK {
		t.Fatalf("Make of %s: error %d", text, e)
	}
	return x
}

// filled returns the octets of bits, which are written as 0 and 1, or as x and two hexadecimal digits for each octet.
func filled(t *testing.T, bits string) []byte {
	t.Helper()
	var digits strings.Builder
	for _, word := range strings.Fields(bits) {
		if word[0] != 'x' {
			digits.WriteString(word)
			continue
		}
		b, err := hex.DecodeString(word[1:])
		if err != nil {
			t.Fatal(err)
		}
		for _, o := range b {
			s := "0000000" + strconv.FormatInt(int64(o), 2)
			digits.WriteString(s[len(s)-8:])
		}
	}
	all := digits.String()
	all += strings.Repeat("0", (8-len(all)%8)%8)
	var out []byte
	for k := 0; k < len(all); k += 8 {
		o, err := strconv.ParseUint(all[k:k+8], 2, 8)
		if err != nil {
			t.Fatal(err)
		}
		out = append(out, byte(o))
	}
	return out
}

// refused reports octets that are not refused.
func refused(t *testing.T, x api.Table, what string, b []byte) {
	t.Helper()
	if v, e := uperin.Decode(x, 0, b); e != api.ErrForm || !reflect.DeepEqual(v, api.Value{}) {
		t.Errorf("P20.1: %s: % x: %+v, error %d", what, b, v, e)
	}
}

func TestDecode(t *testing.T) {
	for _, x := range []struct{ typ, bits, want string }{
		{"SEQUENCE { a INTEGER (0..7), b BOOLEAN OPTIONAL }", "0 101", "{ a 5 }"},
		{"SEQUENCE { a INTEGER (0..7), b BOOLEAN OPTIONAL }", "1 101 1", "{ a 5, b TRUE }"},
		{"BOOLEAN", "1", "TRUE"},
		{"NULL", "x00", "NULL"},
		{"INTEGER (5)", "x00", "5"},
		{"INTEGER (-3..4)", "000", "-3"},
		{"INTEGER (0..7, ...)", "0 101", "5"},
		{"INTEGER (0..7, ...)", "1 x0108", "8"},
		{"INTEGER (-9223372036854775808..9223372036854775807)", "xffffffffffffffff", "9223372036854775807"},
		{"INTEGER (5..MAX)", "x01ff", "260"},
		{"INTEGER (-9223372036854775808..MAX)", "x08ffffffffffffffff", "9223372036854775807"},
		{"INTEGER (5..MAX, ...)", "1 x0104", "4"},
		{"INTEGER (MIN..5, ...)", "0 x02ff7f", "-129"},
		{"INTEGER (MIN..5, ...)", "1 x020080", "128"},
		{"INTEGER", "x020080", "128"},
		{"ENUMERATED { a }", "x00", "a"},
		{"ENUMERATED { a (9), b (3), c (5), ..., d, e }", "0 10", "a"},
		{"ENUMERATED { a (9), b (3), c (5), ..., d, e }", "1 0 000001", "e"},
		{"OCTET STRING", "x0200ff", "'00FF'H"},
		{"INTEGER", "x087fffffffffffffff", "9223372036854775807"},
		{"OCTET STRING (SIZE (0))", "x00", "''H"},
		{"OCTET STRING (SIZE (0..3))", "00", "''H"},
		{"SEQUENCE (SIZE (0..3)) OF NULL", "00", "{}"},
		{"OCTET STRING (SIZE (1..4, ...))", "0 01 x00ff", "'00FF'H"},
		{"OCTET STRING (SIZE (1..4, ...))", "1 x00", "''H"},
		{"OCTET STRING (SIZE (0..65535))", "0000000000000001 xaa", "'AA'H"},
		{"OCTET STRING (SIZE (0..65536))", "x01aa", "'AA'H"},
		{"UTF8String (SIZE (1, ...))", "x02c3a9", `"é"`},
		{"SEQUENCE OF BOOLEAN", "x03 101", "{ TRUE, FALSE, TRUE }"},
		{"SEQUENCE OF NULL", "x02", "{ NULL, NULL }"},
		{"SEQUENCE (SIZE (0..1, ...)) OF BOOLEAN", "1 x02 11", "{ TRUE, TRUE }"},
		{"SEQUENCE (SIZE (0..5)) OF INTEGER (0..3)", "010 01 10", "{ 1, 2 }"},
		{"SEQUENCE (SIZE (0)) OF NULL", "x00", "{}"},
		{"SEQUENCE { a BOOLEAN, ..., b INTEGER (0..7), c NULL, d OCTET STRING }", "1 1 0 000010 101 x0120 x0201ff", "{ a TRUE, b 1, d 'FF'H }"},
		{"SEQUENCE { ..., [[ a BOOLEAN, b INTEGER (0..7) OPTIONAL ]], c NULL }", "1 0 000001 11 x01f8 x0100", "{ a TRUE, b 7, c NULL }"},
		{"SEQUENCE { ..., [[ a BOOLEAN DEFAULT TRUE, b INTEGER (0..7) OPTIONAL ]] }", "1 0 000000 1 x0178", "{ b 7 }"},
		{"SEQUENCE { ..., [[ a NULL ]] }", "1 0 000000 1 x0100", "{ a NULL }"},
		{"SET { a [1] BOOLEAN OPTIONAL, b [0] INTEGER (0..3) DEFAULT 2, c [3] NULL, d [2] BOOLEAN }", "11 01 1 0", "{ a TRUE, b 1, c NULL, d FALSE }"},
		{"SET { a [9] BOOLEAN, ..., b [1] NULL, c [0] INTEGER (0..1) }", "1 1 0 000001 01 x0180", "{ a TRUE, c 1 }"},
		{"CHOICE { a BOOLEAN, b NULL, c INTEGER (0..3) }", "10 10", "c : 2"},
		{"CHOICE { a [1] BOOLEAN, b [0] NULL, c [2] INTEGER (0..3) }", "01 1", "a : TRUE"},
		{"CHOICE { a BOOLEAN, ..., c INTEGER (0..3), d NULL }", "0 1", "a : TRUE"},
		{"CHOICE { a BOOLEAN, ..., c INTEGER (0..3), d NULL }", "1 0 000001 x0100", "d : NULL"},
		{"CHOICE { ..., c [1] NULL, [[ d [0] BOOLEAN ]] }", "1 0 000001 x0180", "d : TRUE"},
	} {
		tab := made(t, x.typ)
		b := filled(t, x.bits)
		v, e := uperin.Decode(tab, 0, b)
		if got, _ := note.Print(tab, 0, v); got != x.want || e != api.OK {
			t.Errorf("P20.1: %s: %s: %s, error %d; want %s", x.typ, x.bits, got, e, x.want)
		}
		if back, e := uper.Encode(tab, 0, v); string(back) != string(b) || e != api.OK {
			t.Errorf("P20.1: %s: %s is the encoding % x", x.typ, x.bits, back)
		}
		refused(t, tab, x.typ, nil)
		refused(t, tab, x.typ, append(b, 0))
		refused(t, tab, x.typ, append(b, 0x80))
	}
}

func TestRefused(t *testing.T) {
	for _, x := range []struct{ typ, bits string }{
		{"SEQUENCE { a INTEGER (0..7), b BOOLEAN OPTIONAL }", "x5000"},
		{"BOOLEAN", "01"},
		{"NULL", "x80"},
		{"NULL", "x01"},
		{"INTEGER (0..4)", "101"},
		{"INTEGER (0..7, ...)", "1 x0105"},   // within
		{"INTEGER (0..7, ...)", "1 x020008"}, // longer than necessary
		{"INTEGER (0..7, ...)", "1 x00"},
		{"INTEGER", "x00"},
		{"INTEGER", "x09000000000000000001"},
		{"INTEGER", "x800105"},
		{"INTEGER (5..MAX)", "x020001"},
		{"INTEGER (5..MAX)", "x087ffffffffffffffb"}, // beyond 64 bits
		{"INTEGER (5..MAX)", "x08ffffffffffffffff"},
		{"INTEGER (5..MAX, ...)", "0 x087ffffffffffffffb"},
		{"INTEGER (5..MAX, ...)", "1 x0105"},
		{"INTEGER (MIN..5)", "x0106"},
		{"INTEGER (MIN..5, ...)", "0 x0106"},
		{"INTEGER (MIN..5, ...)", "1 x0105"},
		{"INTEGER (MIN..MAX, ...)", "1 x0105"},
		{"ENUMERATED { a, b, c }", "11"},
		{"ENUMERATED { a, ... }", "1 1 x0140 1"},
		{"ENUMERATED { a, ... }", "1 1 x0203e8"}, // 1000
		{"ENUMERATED { a, ... }", "1 1 x013f"},   // 63 in an octet
		{"ENUMERATED { a, ... }", "1 1 x0101"},
		{"OCTET STRING (SIZE (1..4, ...))", "1 x0101"}, // within
		{"OCTET STRING (SIZE (1..MAX))", "x00"},
		{"OCTET STRING (SIZE (1..MAX, ...))", "0 x00"},
		{"OCTET STRING (SIZE (1..MAX, ...))", "1 x0101"},
		{"OCTET STRING (SIZE (1..3))", "11 x00000000"},
		{"OCTET STRING", "x0201"},
		{"OCTET STRING", "x800101"},
		{"OCTET STRING", "xc0"},
		{"UTF8String", "x01ff"},
		{"UTF8String (SIZE (1))", "x026161"},
		{"SEQUENCE OF BOOLEAN", "x09 11111111"},
		{"SEQUENCE (SIZE (2..3)) OF NULL", "x01"},
		{"SEQUENCE (SIZE (0..1, ...)) OF BOOLEAN", "1 x01 1"},
		{"SEQUENCE { a BOOLEAN DEFAULT TRUE }", "1 1"},
		{"SEQUENCE { a INTEGER (0..3) DEFAULT 2, b NULL OPTIONAL }", "10 10"},
		{"SEQUENCE { a BOOLEAN, ..., b NULL }", "1 1 0 000000 0"}, // no addition is present
		{"SEQUENCE { a BOOLEAN, ... }", "1 1 0 000010 000"},
		{"SEQUENCE { a BOOLEAN, ..., b NULL }", "1 1 0 000000 1 x00"}, // no octets of an open encoding
		{"SEQUENCE { a BOOLEAN, ..., b NULL }", "1 1 0 000000 1 x0180"},
		{"SEQUENCE { a BOOLEAN, ..., b NULL }", "1 1 0 000000 1 x020000"},
		{"SEQUENCE { a BOOLEAN, ..., b BOOLEAN }", "1 1 0 000000 1 x0140"},
		{"SEQUENCE { a BOOLEAN, ..., b BOOLEAN }", "1 1 0 000000 1 x028000"},
		{"SEQUENCE { a BOOLEAN, ..., b BOOLEAN DEFAULT TRUE }", "1 1 0 000000 1 x0180"},
		{"SEQUENCE { a BOOLEAN, ..., c NULL }", "1 1 0 000001 01 x00"},                        // a Raw of no octets
		{"SEQUENCE { ..., [[ a NULL OPTIONAL, b BOOLEAN OPTIONAL ]] }", "1 0 000000 1 x0100"}, // nothing of a group
		{"SEQUENCE { ..., [[ a NULL, b BOOLEAN OPTIONAL ]] }", "1 0 000000 1 x00"},
		{"SEQUENCE { ..., [[ a NULL, b BOOLEAN OPTIONAL ]] }", "1 0 000000 1 x020000"},
		{"SEQUENCE { ..., [[ a NULL, b BOOLEAN DEFAULT TRUE ]] }", "1 0 000000 1 x01c0"},
		{"SEQUENCE { ..., a NULL }", "1 1 x01 1 x0100"}, // one slot with a determinant
		{"SEQUENCE { ..., a NULL }", "1 1 x40 1" + strings.Repeat("0", 63) + " x0100"},
		{"SEQUENCE { ..., a NULL }", "1 1 x8041 1" + strings.Repeat("0", 64) + " x0100"},
		{"SEQUENCE { ..., a NULL }", "1 1 x83e9 1" + strings.Repeat("0", 1000) + " x0100"},
		{"SEQUENCE { ..., a NULL }", "1 1 xc1 1"},
		{"SEQUENCE { ..., a NULL }", "1 1 x00"},
		{"CHOICE { a BOOLEAN, b NULL, c NULL }", "11"},
		{"CHOICE { a BOOLEAN, ... }", "1 0 000000 x00"},
		{"CHOICE { a BOOLEAN, ... }", "1 1 x0203e8 x0100"},
		{"CHOICE { a BOOLEAN, ..., b NULL }", "1 0 000000 x00"},
		{"CHOICE { a BOOLEAN, ..., b NULL }", "1 0 000000 x020000"},
		{"CHOICE { a BOOLEAN, ..., b BOOLEAN }", "1 0 000000 x0101"},
		{"CHOICE { ..., b BOOLEAN }", "0"},
	} {
		refused(t, made(t, x.typ), x.typ, filled(t, x.bits))
	}
}

func TestUnknownsAndSlots(t *testing.T) {
	null, none := api.Value{Kind: api.Null}, api.Value{}
	un := func(n int64, s string) api.Value {
		return api.Value{Kind: api.Unknown, Rule: api.Uper, N: n, B: []byte(s)}
	}
	seq := func(raws []api.Raw, l ...api.Value) api.Value {
		v := api.Value{Kind: api.Sequence, L: l, More: raws}
		if len(raws) > 0 {
			v.Rule = api.Uper
		}
		return v
	}
	raw := func(n int, s string) api.Raw { return api.Raw{N: n, B: []byte(s)} }
	two := "SEQUENCE { a NULL, ..., b NULL, c NULL }"
	for _, x := range []struct {
		typ, bits string
		want      api.Value
	}{
		{"ENUMERATED { a, ..., b }", "1 0 000101", un(5, "")},
		{"ENUMERATED { a, ..., b }", "1 1 x0203e7", un(999, "")},
		{"CHOICE { a NULL, ..., b NULL }", "1 0 000001 x027879", un(1, "xy")},
		{two, "1 0 000010 001 x0178", seq([]api.Raw{raw(2, "x")}, null, none, none)},
		{two, "1 0 000101 100101 x0100 x0178 x02797a", seq([]api.Raw{raw(3, "x"), raw(5, "yz")}, null, null, none)},
		{two, "1 1 x83e8 1" + strings.Repeat("0", 998) + "1 x0100 x0178", seq([]api.Raw{raw(999, "x")}, null, null, none)},
		{two, "1 0 000000 1 x0100", seq(nil, null, null, none)},
		{two, "1 0 000001 10 x0100", seq(nil, null, null, none)},
		{two, "1 0 000010 100 x0100", seq(nil, null, null, none)},
		{two, "1 0 111111 1" + strings.Repeat("0", 63) + " x0100", seq(nil, null, null, none)},
		{two, "1 1 x41 1" + strings.Repeat("0", 64) + " x0100", seq(nil, null, null, none)},
		{two, "1 1 x83e8 01" + strings.Repeat("0", 998) + " x0100", seq(nil, null, none, null)},
	} {
		tab := made(t, x.typ)
		v, e := uperin.Decode(tab, 0, filled(t, x.bits))
		if e != api.OK || !same.Values(v, x.want) {
			t.Errorf("P20.2: %s: %s: %+v, error %d", x.typ, x.bits, v, e)
		}
	}
}

func TestOtherErrors(t *testing.T) {
	x := made(t, "OCTET STRING (SIZE (0..65535))")
	for _, i := range []int{-1, 1, 1 << 40} {
		if _, e := uperin.Decode(x, i, make([]byte, api.MaxOctets+1)); e != api.ErrNone {
			t.Errorf("P20.1: the type %d: error %d", i, e)
		}
	}
	if _, e := uperin.Decode(x, 0, make([]byte, api.MaxOctets+1)); e != api.ErrLimit {
		t.Errorf("P20.1: more than MaxOctets bytes: error %d", e)
	}
	if _, e := uperin.Decode(x, 0, make([]byte, api.MaxOctets)); e != api.ErrForm {
		t.Errorf("P20.1: MaxOctets bytes: error %d", e)
	}
	long := made(t, "OCTET STRING")
	b := append([]byte{0xc4}, make([]byte, 65536)...)
	b = append(append(b, 0x91, 0x6d), make([]byte, 4461)...)
	if v, e := uperin.Decode(long, 0, b); e != api.OK || len(b) != api.MaxOctets || len(v.B) != api.MaxOctets-3 {
		t.Errorf("P20.1: %d octets in %d, error %d", len(v.B), len(b), e)
	}
}

func TestManyValues(t *testing.T) {
	x := made(t, "SEQUENCE OF NULL")
	if v, e := uperin.Decode(x, 0, filled(t, "x9387")); e != api.OK || len(v.L) != api.MaxItems-1 {
		t.Errorf("P20.1: MaxItems values: error %d", e)
	}
	refused(t, x, "more than MaxItems values", filled(t, "x9388"))
	refused(t, made(t, "SEQUENCE (SIZE (60000)) OF NULL"), "60,000 values", []byte{0})
	refused(t, made(t, "SEQUENCE (SIZE (2500)) OF SEQUENCE { a NULL OPTIONAL }"), "5,001 values", make([]byte, 313))
	if _, e := uperin.Decode(made(t, "SEQUENCE (SIZE (2499)) OF SEQUENCE { a NULL OPTIONAL }"), 0, make([]byte, 313)); e != api.OK {
		t.Errorf("P20.1: 4,999 values: error %d", e)
	}
}

// TestWhatIsReadIsWritten tells of octets that are accepted beside the one encoding.
func TestWhatIsReadIsWritten(t *testing.T) {
	tab := made(t, `SEQUENCE { a INTEGER (0..4, ...) DEFAULT 2, b CHOICE { x NULL, y BOOLEAN, ..., z ENUMERATED { r, s, ... } } OPTIONAL, c SEQUENCE (SIZE (0..2, ...)) OF INTEGER (3..MAX),
		..., [[ d BOOLEAN DEFAULT TRUE, e NULL OPTIONAL ]], f OCTET STRING (SIZE (1..2)) }`)
	rng := rand.New(rand.NewSource(1))
	read := 0
	for range 400000 {
		b := make([]byte, 1+rng.Intn(7))
		rng.Read(b)
		if rng.Intn(2) == 0 {
			b[len(b)-1] &= 0xe0
		}
		v, e := uperin.Decode(tab, 0, b)
		if e != api.OK {
			continue
		}
		read++
		back, e := uper.Encode(tab, 0, v)
		if e != api.OK {
			t.Fatalf("P20.1: % x is read as %+v, which has no encoding: error %d", b, v, e)
		}
		again, e := uperin.Decode(tab, 0, back)
		if e != api.OK || !same.Values(again, v) {
			t.Fatalf("consequence: % x is read as %+v, and % x as %+v", b, v, back, again)
		}
		if v.L[3].Kind == 0 && v.L[4].Kind == 0 && v.L[5].Kind == 0 && len(v.More) == 0 && string(back) != string(b) {
			t.Fatalf("P20.1: % x and % x are both read as %+v", b, back, v)
		}
	}
	if read < 1000 {
		t.Errorf("only %d were read", read)
	}
}

func TestValueIsApart(t *testing.T) {
	x := made(t, "SEQUENCE { a OCTET STRING, b OCTET STRING }")
	b := filled(t, "x0101 x0102")
	v, _ := uperin.Decode(x, 0, b)
	b[1], b[3] = 9, 9
	_ = append(v.L[0].B, 7, 7, 7, 7)
	if v.L[0].B[0] != 1 || v.L[1].B[0] != 2 {
		t.Errorf("R3: parts of the value share memory: %+v", v)
	}
}

func TestStrangeTables(t *testing.T) {
	x := api.Table{Types: []api.Type{
		{Kind: api.Choice, Root: 2, Fields: []api.Field{{Type: 0}, {Type: -1}}},
		{Kind: api.Choice, More: true, Root: 9, Fields: []api.Field{{Type: 1}, {Type: 1}}},
		{Kind: 77},
		{Kind: api.ListOf, Of: 3, Con: api.Con{Has: true, HasLow: true, HasHigh: true, Low: -9, High: -1}},
		{Kind: api.Enumerated, Root: -7, More: true, Items: []api.Item{{}}},
		{Kind: api.Set, Root: -7, More: true, Fields: []api.Field{{Type: 5}, {Type: 9, Group: 1}}},
		{Kind: api.Integer, Con: api.Con{Has: true, HasLow: true, HasHigh: true, Low: 9, High: 1}},
	}}
	for i := range x.Types {
		for n := range 256 {
			uperin.Decode(x, i, []byte{byte(n), 0xff, byte(n), 0x01})
		}
	}
}
