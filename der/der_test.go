package der_test

import (
	"encoding/hex"
	"strings"
	"testing"

	"ogham/api"
	"ogham/der"
	"ogham/note"
	"ogham/syntax"
	"ogham/table"
)

// made is the table of a module whose first name, A, is this type.
func made(t *testing.T, tagging, text string) api.Table {
	t.Helper()
	m, at, e := syntax.Parse("M DEFINITIONS " + tagging + " TAGS ::= BEGIN A ::= " + text + " END")
	if e != api.OK {
		t.Fatalf("Parse of %s: error %d at %d", text, e, at)
	}
	x, _, e := table.Make(m)
	if e != api.OK {
		t.Fatalf("Make of %s: error %d", text, e)
	}
	return x
}

func noted(t *testing.T, x api.Table, text string) api.Value {
	t.Helper()
	v, at, e := note.Parse(x, 0, text)
	if e != api.OK {
		t.Fatalf("%s: error %d at %d", text, e, at)
	}
	return v
}

// encoded holds the encoding of a value against the hexadecimal digits.
func encoded(t *testing.T, x api.Table, what string, v api.Value, want string) {
	t.Helper()
	got, e := der.Encode(x, 0, v)
	if hex.EncodeToString(got) != strings.ReplaceAll(want, " ", "") || e != api.OK {
		t.Errorf("P15.1: %s: % x, error %d; want %s", what, got, e, want)
	}
}

func TestEncode(t *testing.T) {
	for _, x := range []struct{ tagging, typ, v, want string }{
		{"EXPLICIT", "SEQUENCE { a INTEGER, b BOOLEAN }", "{ a 5, b TRUE }", "30 06 02 01 05 01 01 ff"},
		{"EXPLICIT", "BOOLEAN", "FALSE", "01 01 00"},
		{"EXPLICIT", "INTEGER", "-129", "02 02 ff 7f"},
		{"EXPLICIT", "INTEGER (128..MAX)", "128", "02 02 00 80"},
		{"EXPLICIT", "ENUMERATED { a (300), b }", "a", "0a 02 01 2c"},
		{"EXPLICIT", "ENUMERATED { a, ..., b (-1) }", "b", "0a 01 ff"},
		{"EXPLICIT", "NULL", "NULL", "05 00"},
		{"EXPLICIT", "OCTET STRING", "'00FF'H", "04 02 00 ff"},
		{"EXPLICIT", "OCTET STRING", "''H", "04 00"},
		{"EXPLICIT", "UTF8String", `"é"`, "0c 02 c3 a9"},
		{"EXPLICIT", "SEQUENCE OF BOOLEAN", "{ TRUE, FALSE }", "30 06 01 01 ff 01 01 00"},
		{"EXPLICIT", "SEQUENCE OF NULL", "{}", "30 00"},
		{"EXPLICIT", "SET {}", "{}", "31 00"},
		{"EXPLICIT", "SEQUENCE { a NULL OPTIONAL, b INTEGER DEFAULT 5, c BOOLEAN }", "{ c TRUE }", "30 03 01 01 ff"},
		{"EXPLICIT", "SEQUENCE { a [1] NULL OPTIONAL, b INTEGER DEFAULT 5, ..., c BOOLEAN }", "{ a NULL, b 6, c TRUE }", "30 0a a1 02 05 00 02 01 06 01 01 ff"},
		{"EXPLICIT", "[3] INTEGER", "5", "a3 03 02 01 05"},
		{"EXPLICIT", "[3] IMPLICIT INTEGER", "5", "83 01 05"},
		{"EXPLICIT", "[3] IMPLICIT SEQUENCE OF NULL", "{ NULL }", "a3 02 05 00"},
		{"EXPLICIT", "[3] IMPLICIT SET { a NULL }", "{ a NULL }", "a3 02 05 00"},
		{"EXPLICIT", "[3] SEQUENCE {}", "{}", "a3 02 30 00"},
		{"EXPLICIT", "[268435456] B B ::= [5] C C ::= [6] NULL", "NULL", "bf 81 80 80 80 00 06 a5 04 a6 02 05 00"},
		{"IMPLICIT", "[7] B B ::= [5] EXPLICIT C C ::= [6] NULL", "NULL", "a7 02 86 00"},
		{"EXPLICIT", "CHOICE { a NULL, b [1] INTEGER }", "b : 5", "a1 03 02 01 05"},
		{"EXPLICIT", "[9] CHOICE { a NULL, b [1] INTEGER }", "a : NULL", "a9 02 05 00"},
		{"IMPLICIT", "[9] CHOICE { a [2] CHOICE { b [3] NULL } }", "a : b : NULL", "a9 04 a2 02 83 00"},
		{"AUTOMATIC", "SEQUENCE { a INTEGER, b CHOICE { c NULL, d NULL }, e SEQUENCE OF INTEGER }", "{ a 5, b d : NULL, e { 1 } }", "30 0c 80 01 05 a1 02 81 00 a2 03 02 01 01"},
		{"EXPLICIT", "SET { a [1] NULL, b [0] NULL, c UTF8String, d BOOLEAN }", `{ a NULL, b NULL, c "", d TRUE }`, "31 0d 01 01 ff 0c 00 a0 02 05 00 a1 02 05 00"},
		{"EXPLICIT", "SET { a CHOICE { x [0] NULL, y BOOLEAN }, b NULL, ..., c INTEGER }", "{ a x : NULL, b NULL, c 1 }", "31 09 02 01 01 05 00 a0 02 05 00"},
		{"EXPLICIT", "SET { a CHOICE { x [0] NULL, y BOOLEAN }, b NULL, ..., c INTEGER }", "{ a y : TRUE, b NULL, c 1 }", "31 08 01 01 ff 02 01 01 05 00"},
		{"IMPLICIT", "SET { a [31] NULL, b [30] NULL, c [200] NULL }", "{ a NULL, b NULL, c NULL }", "31 09 9e 00 9f 1f 00 9f 81 48 00"},
	} {
		tab := made(t, x.tagging, x.typ)
		encoded(t, tab, x.typ+" "+x.v, noted(t, tab, x.v), x.want)
	}
}

func TestLongContents(t *testing.T) {
	x := made(t, "EXPLICIT", "[0] OCTET STRING")
	for _, y := range []struct {
		n    int
		head string
	}{{127, "a0 81 81 04 7f"}, {128, "a0 81 83 04 81 80"}, {256, "a0 82 01 04 04 82 01 00"}, {65536, "a0 83 01 00 05 04 83 01 00 00"}} {
		v := api.Value{Kind: api.Octets, B: make([]byte, y.n)}
		encoded(t, x, "octets", v, y.head+strings.Repeat("00", y.n))
	}
}

func un(rule int, n int64, s string) api.Value {
	return api.Value{Kind: api.Unknown, Rule: rule, N: n, B: []byte(s)}
}

func TestUnknowns(t *testing.T) {
	null := api.Value{Kind: api.Null}
	raws := []api.Raw{{B: []byte("\x04\x00")}, {B: []byte("\x1e\x01x")}, {B: []byte("\xa2\x00")}}
	seq := made(t, "EXPLICIT", "SEQUENCE { a NULL, ..., b [0] NULL, c [1] NULL }")
	encoded(t, seq, "raws", api.Value{Kind: api.Sequence, L: []api.Value{null, {}, null}, Rule: api.Der, More: []api.Raw{raws[2], raws[1]}}, "30 0b 05 00 a1 02 05 00 a2 00 1e 01 78")
	set := made(t, "EXPLICIT", "SET { a NULL, ..., b [0] NULL }")
	encoded(t, set, "raws", api.Value{Kind: api.Set, L: []api.Value{null, null}, Rule: api.Der, More: raws}, "31 0d 04 00 05 00 1e 01 78 a0 02 05 00 a2 00")
	choice := made(t, "EXPLICIT", "CHOICE { a NULL, ... }")
	encoded(t, choice, "an alternative", un(api.Der, 0, "\x04\x01x"), "04 01 78")
	choice = made(t, "EXPLICIT", "[2] CHOICE { a NULL, ... }")
	encoded(t, choice, "an alternative with a tag", un(api.Der, 0, "\x04\x01x"), "a2 03 04 01 78")
	item := made(t, "EXPLICIT", "[2] ENUMERATED { a, ... }")
	encoded(t, item, "an item", un(api.Der, -129, ""), "a2 04 0a 02 ff 7f")
}

func TestRefuses(t *testing.T) {
	raw := []api.Raw{{N: 7, B: []byte("x")}}
	null := api.Value{Kind: api.Null}
	x := made(t, "EXPLICIT", "SEQUENCE { a ENUMERATED { r, ... }, b NULL OPTIONAL, ... }")
	for i, y := range []struct {
		i    int
		v    api.Value
		want api.Errno
	}{
		{-1, null, api.ErrValue}, {9, null, api.ErrValue}, {0, null, api.ErrValue}, {0, api.Value{}, api.ErrValue},
		{0, api.Value{Kind: api.Sequence, L: []api.Value{un(api.Uper, 5, ""), {}}}, api.ErrRule},
		{0, api.Value{Kind: api.Sequence, L: []api.Value{un(api.Der, 5, ""), {}}, Rule: api.Uper, More: raw}, api.ErrRule},
		{0, api.Value{Kind: api.Sequence, L: []api.Value{un(api.Uper, 5, ""), null, null}}, api.ErrValue},
		{0, api.Value{Kind: api.Sequence, L: []api.Value{{Kind: api.Unknown}, {}}}, api.ErrValue},
		{1, un(api.Uper, 5, ""), api.ErrRule},
	} {
		if got, e := der.Encode(x, y.i, y.v); e != y.want || len(got) != 0 {
			t.Errorf("P15.1: row %d: % x, error %d; want %d", i, got, e, y.want)
		}
	}
}

func TestLimit(t *testing.T) {
	x := made(t, "EXPLICIT", "OCTET STRING")
	if b, e := der.Encode(x, 0, api.Value{Kind: api.Octets, B: make([]byte, api.MaxOctets-5)}); len(b) != api.MaxOctets || e != api.OK {
		t.Errorf("P15.1: %d octets, error %d", len(b), e)
	}
	if b, e := der.Encode(x, 0, api.Value{Kind: api.Octets, B: make([]byte, api.MaxOctets-4)}); len(b) != 0 || e != api.ErrLimit {
		t.Errorf("P15.1: %d octets, error %d", len(b), e)
	}
	list := made(t, "EXPLICIT", "SEQUENCE OF SEQUENCE OF CHOICE { a OCTET STRING, ... }")
	big := api.Value{Kind: api.Choice, L: []api.Value{{Kind: api.Octets, B: make([]byte, api.MaxOctets)}}}
	var inner []api.Value
	for range 2000 {
		inner = append(inner, big)
	}
	v := api.Value{Kind: api.ListOf, L: []api.Value{{Kind: api.ListOf, L: inner}}}
	if b, e := der.Encode(list, 0, v); len(b) != 0 || e != api.ErrLimit {
		t.Errorf("P15.1: %d octets, error %d", len(b), e)
	}
	v.L[0].L = append(inner[:1], un(api.Uper, 0, "x"))
	if _, e := der.Encode(list, 0, v); e != api.ErrRule {
		t.Errorf("P15.1: too long, and by other rules: error %d", e)
	}
}

func TestDifferentValuesHaveDifferentElements(t *testing.T) {
	x := made(t, "EXPLICIT", "SEQUENCE { a INTEGER (-3..3, ...) DEFAULT 0, b [1] CHOICE { c NULL, d SEQUENCE OF BOOLEAN } OPTIONAL }")
	seen := map[string]string{}
	for _, a := range []string{"", "a -1", "a 1", "a 128", "a -128", "a 255"} {
		for _, b := range []string{"", "b c : NULL", "b d : {}", "b d : { TRUE }", "b d : { TRUE, FALSE }", "b d : { FALSE, TRUE }"} {
			comma := ","
			if a == "" || b == "" {
				comma = ""
			}
			text := "{" + a + comma + b + "}"
			got, e := der.Encode(x, 0, noted(t, x, text))
			if e != api.OK || seen[string(got)] != "" {
				t.Errorf("consequence: %s and %s: % x, error %d", text, seen[string(got)], got, e)
			}
			seen[string(got)] = text
		}
	}
}

func TestElementIsApart(t *testing.T) {
	x := made(t, "EXPLICIT", "CHOICE { a NULL, ... }")
	v := un(api.Der, 0, "\x04\x01x")
	got, _ := der.Encode(x, 0, v)
	got[2] = 'y'
	if v.B[2] != 'x' {
		t.Error("R3: the element is that of the value")
	}
}

func TestStrangeTables(t *testing.T) {
	x := api.Table{Types: []api.Type{
		{Kind: api.Integer},
		{Kind: api.Choice, Tags: []api.Tag{{Class: -5, Number: -7}}, Fields: []api.Field{{Type: 0}}},
		{Kind: api.Set, Fields: []api.Field{{Type: 0}, {Type: 0}}},
	}}
	one := api.Value{Kind: api.Integer, N: 1}
	der.Encode(x, 0, one)
	der.Encode(x, 1, api.Value{Kind: api.Choice, L: []api.Value{one}})
	der.Encode(x, 2, api.Value{Kind: api.Set, L: []api.Value{one, one}})
}
