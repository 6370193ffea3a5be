package derin_test

import (
	"encoding/hex"
	"reflect"
	"strings"
	"testing"

	"ogham/api"
	"ogham/der"
	"ogham/derin"
	"ogham/note"
	"ogham/same"
	"ogham/syntax"
	"ogham/table"
)

// made is the table of a module whose first name, A, is this type.
func made(t *testing.T, tagging, text string) api.Table {
	t.Helper()
	m, at, e := syntax.Parse("M DEFINITIONS " + tagging + " TAGS ::= BEGIN A ::= " + text + " END")
	if e != api.OK {
		t.Fatalf("Parse of %s: error %d at %d", text, e, at)
	}
	x, _, e := table.Make(m)
	if e != api.OK {
		t.Fatalf("Make of %s: error %d", text, e)
	}
	return x
}

func octets(t *testing.T, digits string) []byte {
	t.Helper()
	b, err := hex.DecodeString(strings.ReplaceAll(digits, " ", ""))
	if err != nil {
		t.Fatal(err)
	}
	return b
}

// refused reports octets that are not refused.
func refused(t *testing.T, x api.Table, what string, b []byte) {
	t.Helper()
	if v, e := derin.Decode(x, 0, b); e != api.ErrForm || !reflect.DeepEqual(v, api.Value{}) {
		t.Errorf("P16.1: %s: % x: %+v, error %d", what, b, v, e)
	}
}

func TestDecode(t *testing.T) {
	for _, x := range []struct{ tagging, typ, b, want string }{
		{"EXPLICIT", "SEQUENCE { a INTEGER, b BOOLEAN }", "30 06 02 01 05 01 01 ff", "{ a 5, b TRUE }"},
		{"EXPLICIT", "BOOLEAN", "01 01 00", "FALSE"},
		{"EXPLICIT", "INTEGER", "02 02 ff 7f", "-129"},
		{"EXPLICIT", "ENUMERATED { a (300), b }", "0a 02 01 2c", "a"},
		{"EXPLICIT", "NULL", "05 00", "NULL"},
		{"EXPLICIT", "OCTET STRING (SIZE (1..2))", "04 02 00 ff", "'00FF'H"},
		{"EXPLICIT", "UTF8String", "0c 02 c3 a9", `"é"`},
		{"EXPLICIT", "SEQUENCE OF BOOLEAN", "30 06 01 01 ff 01 01 00", "{ TRUE, FALSE }"},
		{"EXPLICIT", "SEQUENCE OF SEQUENCE OF NULL", "30 06 30 00 30 02 05 00", "{ {}, { NULL } }"},
		{"EXPLICIT", "SET {}", "31 00", "{}"},
		{"EXPLICIT", "SEQUENCE { a NULL OPTIONAL, b INTEGER DEFAULT 5, c BOOLEAN }", "30 03 01 01 ff", "{ c TRUE }"},
		{"EXPLICIT", "SEQUENCE { a [1] NULL OPTIONAL, b INTEGER DEFAULT 5, ..., c BOOLEAN }", "30 0a a1 02 05 00 02 01 06 01 01 ff", "{ a NULL, b 6, c TRUE }"},
		{"EXPLICIT", "[268435456] B B ::= [5] C C ::= [6] NULL", "bf 81 80 80 80 00 06 a5 04 a6 02 05 00", "NULL"},
		{"EXPLICIT", "[9] CHOICE { a NULL, b [1] INTEGER }", "a9 05 a1 03 02 01 05", "b : 5"},
		{"IMPLICIT", "CHOICE { a [2] CHOICE { b [3] NULL }, c CHOICE { d [4] NULL, e [5] NULL } }", "85 00", "c : e : NULL"},
		{"AUTOMATIC", "SEQUENCE { a INTEGER, b CHOICE { c NULL, d NULL }, e SEQUENCE OF INTEGER }", "30 0c 80 01 05 a1 02 81 00 a2 03 02 01 01", "{ a 5, b d : NULL, e { 1 } }"},
		{"EXPLICIT", "SET { a [1] NULL, b [0] NULL, c UTF8String, d BOOLEAN }", "31 0d 01 01 ff 0c 00 a0 02 05 00 a1 02 05 00", `{ a NULL, b NULL, c "", d TRUE }`},
		{"EXPLICIT", "SET { a CHOICE { x [0] NULL, y BOOLEAN }, b NULL, ..., c INTEGER }", "31 09 02 01 01 05 00 a0 02 05 00", "{ a x : NULL, b NULL, c 1 }"},
		{"EXPLICIT", "SEQUENCE { a W OPTIONAL } W ::= CHOICE { v V } V ::= CHOICE { n NULL, ..., b BOOLEAN }", "30 03 01 01 ff", "{ a v : b : TRUE }"},
		{"EXPLICIT", "SET { a CHOICE { n NULL, ... } }", "31 02 05 00", "{ a n : NULL }"},
	} {
		tab := made(t, x.tagging, x.typ)
		b := octets(t, x.b)
		v, e := derin.Decode(tab, 0, b)
		if got, _ := note.Print(tab, 0, v); got != x.want || e != api.OK {
			t.Errorf("P16.1: %s: %s: %s, error %d; want %s", x.typ, x.b, got, e, x.want)
		}
		if back, e := der.Encode(tab, 0, v); string(back) != string(b) || e != api.OK {
			t.Errorf("P16.1: %s: %s is the encoding % x", x.typ, x.b, back)
		}
		for n := range b {
			refused(t, tab, x.typ, b[:n])
		}
		refused(t, tab, x.typ, append(b, 0))
		refused(t, tab, x.typ, append(b, b...))
	}
}

func TestRefused(t *testing.T) {
	for _, x := range []struct{ tagging, typ, b string }{
		{"EXPLICIT", "BOOLEAN", "01 01 01"},
		{"EXPLICIT", "BOOLEAN", "01 01 fe"},
		{"EXPLICIT", "BOOLEAN", "01 00"},
		{"EXPLICIT", "BOOLEAN", "01 02 ff ff"},
		{"EXPLICIT", "BOOLEAN", "21 01 ff"},
		{"EXPLICIT", "BOOLEAN", "02 01 00"},
		{"EXPLICIT", "BOOLEAN", "01 81 01 ff"},
		{"EXPLICIT", "INTEGER", "02 00"},
		{"EXPLICIT", "INTEGER", "02 02 00 05"},
		{"EXPLICIT", "INTEGER", "02 09 00 80 00 00 00 00 00 00 00"},
		{"EXPLICIT", "INTEGER (0..7)", "02 01 08"},
		{"EXPLICIT", "ENUMERATED { a, b }", "0a 01 02"},
		{"EXPLICIT", "ENUMERATED { a, b, ... }", "0a 02 00 02"},
		{"EXPLICIT", "ENUMERATED { a, b, ... }", "2a 01 00"},
		{"EXPLICIT", "NULL", "05 01 00"},
		{"EXPLICIT", "NULL", "25 00"},
		{"EXPLICIT", "OCTET STRING (SIZE (1..2))", "04 00"},
		{"EXPLICIT", "OCTET STRING", "24 04 04 02 00 00"},
		{"EXPLICIT", "UTF8String", "0c 01 ff"},
		{"EXPLICIT", "SEQUENCE OF NULL", "10 00"},
		{"EXPLICIT", "SEQUENCE OF NULL", "30 80 00 00"},
		{"EXPLICIT", "SEQUENCE OF NULL", "30 02 05"},
		{"EXPLICIT", "SEQUENCE OF NULL", "30 03 01 01 00"},
		{"EXPLICIT", "SEQUENCE (SIZE (1)) OF NULL", "30 04 05 00 05 00"},
		{"EXPLICIT", "SEQUENCE { a INTEGER DEFAULT 5 }", "30 03 02 01 05"},
		{"EXPLICIT", "SEQUENCE { a INTEGER, b BOOLEAN }", "30 06 01 01 ff 02 01 05"},
		{"EXPLICIT", "SEQUENCE { a INTEGER, b BOOLEAN }", "30 03 02 01 05"},
		{"EXPLICIT", "SEQUENCE { a INTEGER, b BOOLEAN }", "31 06 02 01 05 01 01 ff"},
		{"EXPLICIT", "SEQUENCE { a INTEGER }", "30 05 02 01 05 05 00"},
		{"EXPLICIT", "SEQUENCE { a INTEGER, ... }", "30 05 05 00 02 01 05"},
		{"EXPLICIT", "SEQUENCE { ..., a INTEGER, b BOOLEAN }", "30 06 01 01 ff 02 01 05"},
		{"EXPLICIT", "SEQUENCE { ..., a INTEGER }", "30 05 05 00 02 01 05"},
		{"EXPLICIT", "SEQUENCE { ..., a INTEGER }", "30 06 02 01 05 02 01 05"},
		{"EXPLICIT", "SEQUENCE { a INTEGER, ... }", "30 05 02 01 05 05 01"},
		{"EXPLICIT", "SEQUENCE { ..., [[ a INTEGER, b BOOLEAN ]] }", "30 03 02 01 05"},
		{"EXPLICIT", "SET { a INTEGER, b BOOLEAN }", "31 06 02 01 05 01 01 ff"},
		{"EXPLICIT", "SET { a INTEGER, b BOOLEAN }", "31 06 02 01 05 02 01 05"},
		{"EXPLICIT", "SET { a INTEGER, ... }", "31 05 02 01 05 01 00"},
		{"EXPLICIT", "SET { a INTEGER, ... }", "31 07 02 01 05 05 00 05 00"},
		{"EXPLICIT", "SET { a INTEGER }", "31 05 02 01 05 05 00"},
		{"EXPLICIT", "[1] NULL", "a1 04 05 00 05 00"},
		{"EXPLICIT", "[1] NULL", "a1 00"},
		{"EXPLICIT", "[1] NULL", "81 02 05 00"},
		{"EXPLICIT", "[1] NULL", "05 00"},
		{"EXPLICIT", "[1] CHOICE { a NULL }", "a1 04 05 00 05 00"},
		{"EXPLICIT", "[1] CHOICE { a NULL }", "81 02 05 00"},
		{"EXPLICIT", "[1] CHOICE { a NULL }", "a1 00"},
		{"EXPLICIT", "CHOICE { a NULL }", "01 01 ff"},
		{"EXPLICIT", "CHOICE { a [0] NULL }", "80 02 05 00"},
		{"IMPLICIT", "CHOICE { a [0] SEQUENCE {} }", "80 00"},
	} {
		refused(t, made(t, x.tagging, x.typ), x.typ, octets(t, x.b))
	}
}

func TestUnknowns(t *testing.T) {
	null := api.Value{Kind: api.Null}
	un := func(n int64, b string) api.Value {
		return api.Value{Kind: api.Unknown, Rule: api.Der, N: n, B: octets(t, b)}
	}
	with := func(kind int, raws []string, l ...api.Value) api.Value {
		v := api.Value{Kind: kind, L: l, Rule: api.Der}
		for _, s := range raws {
			v.More = append(v.More, api.Raw{B: octets(t, s)})
		}
		return v
	}
	for _, x := range []struct {
		typ, b string
		want   api.Value
	}{
		{"ENUMERATED { a, b (5), ... }", "0a 01 04", un(4, "")},
		{"ENUMERATED { a, b (5), ..., c (9) }", "0a 01 09", api.Value{Kind: api.Enumerated, N: 9}},
		{"CHOICE { a NULL, ... }", "a1 03 02 01 05", un(0, "a1 03 02 01 05")},
		{"[3] CHOICE { a NULL, ... }", "a3 03 01 01 ff", un(0, "01 01 ff")},
		{"SEQUENCE { a NULL, ... }", "30 06 05 00 05 00 04 00", with(api.Sequence, []string{"05 00", "04 00"}, null)},
		{"SEQUENCE { a NULL OPTIONAL, ... }", "30 02 04 00", with(api.Sequence, []string{"04 00"}, api.Value{})},
		{"SEQUENCE { ..., a [1] NULL, b [2] NULL }", "30 08 a2 02 05 00 05 00 04 00", with(api.Sequence, []string{"05 00", "04 00"}, api.Value{}, null)},
		{"SET { a NULL, ... }", "31 06 04 00 05 00 a1 00", with(api.Set, []string{"04 00", "a1 00"}, null)},
		{"SEQUENCE OF CHOICE { a NULL, ... }", "30 04 05 00 04 00", api.Value{Kind: api.ListOf, L: []api.Value{{Kind: api.Choice, L: []api.Value{null}}, un(0, "04 00")}}},
		{"SEQUENCE { a CHOICE { ... } OPTIONAL }", "30 02 05 00", api.Value{Kind: api.Sequence, L: []api.Value{un(0, "05 00")}}},
		{"SET { a CHOICE { b CHOICE { ... } } }", "31 02 05 00", api.Value{Kind: api.Set, L: []api.Value{{Kind: api.Choice, L: []api.Value{un(0, "05 00")}}}}},
	} {
		tab := made(t, "EXPLICIT", x.typ)
		v, e := derin.Decode(tab, 0, octets(t, x.b))
		if e != api.OK || !same.Values(v, x.want) {
			t.Errorf("P16.1: %s: %s: %+v, error %d", x.typ, x.b, v, e)
		}
	}
}

func TestOtherErrors(t *testing.T) {
	x := made(t, "EXPLICIT", "OCTET STRING")
	for _, i := range []int{-1, 1, 1 << 40} {
		if _, e := derin.Decode(x, i, make([]byte, api.MaxOctets+1)); e != api.ErrNone {
			t.Errorf("P16.1: the type %d: error %d", i, e)
		}
	}
	head := octets(t, "04 83 01 11 6b")
	if v, e := derin.Decode(x, 0, append(head, make([]byte, api.MaxOctets-5)...)); e != api.OK || len(v.B) != api.MaxOctets-5 {
		t.Errorf("P16.1: MaxOctets bytes: error %d", e)
	}
	if _, e := derin.Decode(x, 0, make([]byte, api.MaxOctets+1)); e != api.ErrLimit {
		t.Errorf("P16.1: more than MaxOctets bytes: error %d", e)
	}
}

func TestManyValues(t *testing.T) {
	x := made(t, "EXPLICIT", "SEQUENCE OF NULL")
	list := func(n int) []byte {
		b := octets(t, "30 82 00 00"+strings.Repeat("05 00", n))
		b[2], b[3] = byte(2*n>>8), byte(2*n)
		return b
	}
	if v, e := derin.Decode(x, 0, list(api.MaxItems-1)); e != api.OK || len(v.L) != api.MaxItems-1 {
		t.Errorf("P16.1: MaxItems values: error %d", e)
	}
	refused(t, x, "more than MaxItems values", list(api.MaxItems))
	x = made(t, "EXPLICIT", "SEQUENCE OF CHOICE { a SEQUENCE { b NULL OPTIONAL, c BOOLEAN OPTIONAL } }")
	list = func(n int) []byte {
		b := octets(t, "30 82 00 00"+strings.Repeat("30 00", n))
		b[2], b[3] = byte(2*n>>8), byte(2*n)
		return b
	}
	if _, e := derin.Decode(x, 0, list(1249)); e != api.OK {
		t.Errorf("P16.1: 4,997 values: error %d", e)
	}
	refused(t, x, "5,001 values", list(1250))
}

func TestValueIsApart(t *testing.T) {
	x := made(t, "EXPLICIT", "SEQUENCE { a OCTET STRING, b OCTET STRING, ... }")
	b := octets(t, "30 0a 04 01 01 04 01 02 05 00 05 00")
	v, _ := derin.Decode(x, 0, b)
	b[4], b[8] = 9, 9
	_ = append(v.L[0].B, 7, 7, 7, 7)
	v.More[0].B[0] = 8
	if v.L[0].B[0] != 1 || v.L[1].B[0] != 2 || v.More[1].B[0] != 5 {
		t.Errorf("R3: parts of the value share memory: %+v", v)
	}
}

func TestStrangeTables(t *testing.T) {
	x := api.Table{Types: []api.Type{
		{Kind: api.Choice, Fields: []api.Field{{Type: 0}, {Type: -1}}},
		{Kind: api.Choice, More: true, Fields: []api.Field{{Type: 1}, {Type: 1}}},
		{Kind: api.Null}, {Kind: 77, Tags: []api.Tag{{Number: 5}}},
		{Kind: api.ListOf, Of: 4, Tags: []api.Tag{{Number: 16}}},
	}}
	for i := range x.Types {
		derin.Decode(x, i, []byte{5, 0})
		derin.Decode(x, i, octets(t, "30 06 30 04 30 02 30 00"))
	}
}
