package uper_test

import (
	"encoding/hex"
	"strconv"
	"strings"
	"testing"

	"ogham/api"
	"ogham/note"
	"ogham/syntax"
	"ogham/table"
	"ogham/uper"
)

// made is the table of a module whose first name, A, is this type.
func made(t *testing.T, text string) api.Table {
	t.Helper()
	m, at, e := syntax.Parse("M DEFINITIONS AUTOMATIC TAGS ::= BEGIN A ::= " + text + " END")
	if e != api.OK {
		t.Fatalf("Parse of %s: error %d at %d", text, e, at)
	}
	x, _, e := table.Make(m)
	if e != api.OK {
		t.Fatalf("Make of %s: error %d", text, e)
	}
	return x
}

func noted(t *testing.T, x api.Table, text string) api.Value {
	t.Helper()
	v, at, e := note.Parse(x, 0, text)
	if e != api.OK {
		t.Fatalf("%s: error %d at %d", text, e, at)
	}
	return v
}

// filled returns the octets of bits, which are written as 0 and 1, or as x and two hexadecimal digits for each octet.
func filled(t *testing.T, bits string) string {
	t.Helper()
	var digits strings.Builder
	for _, word := range strings.Fields(bits) {
		if word[0] != 'x' {
			digits.WriteString(word)
			continue
		}
		b, err := hex.DecodeString(word[1:])
		if err != nil {
			t.Fatal(err)
		}
		for _, o := range b {
			s := "0000000" + strconv.FormatInt(int64(o), 2)
			digits.WriteString(s[len(s)-8:])
		}
	}
	all := digits.String()
	if all == "" {
		return "\x00"
	}
	all += strings.Repeat("0", (8-len(all)%8)%8)
	var out []byte
	for k := 0; k < len(all); k += 8 {
		o, err := strconv.ParseUint(all[k:k+8], 2, 8)
		if err != nil {
			t.Fatal(err)
		}
		out = append(out, byte(o))
	}
	return string(out)
}

func encoded(t *testing.T, x api.Table, what string, v api.Value, bits string) {
	t.Helper()
	got, e := uper.Encode(x, 0, v)
	if string(got) != filled(t, bits) || e != api.OK {
		t.Errorf("P19.1: %s: % x, error %d; want % x", what, got, e, filled(t, bits))
	}
}

func TestSimpleTypes(t *testing.T) {
	for _, x := range []struct{ typ, v, bits string }{
		{"BOOLEAN", "TRUE", "1"},
		{"BOOLEAN", "FALSE", "0"},
		{"NULL", "NULL", ""},
		{"INTEGER (0..7)", "5", "101"},
		{"INTEGER (-3..4)", "-3", "000"},
		{"INTEGER (5)", "5", ""},
		{"INTEGER (3..12)", "12", "1001"},
		{"INTEGER (0..7, ...)", "5", "0 101"},
		{"INTEGER (0..7, ...)", "8", "1 x0108"},
		{"INTEGER (0..7, ...)", "-1", "1 x01ff"},
		{"INTEGER (-9223372036854775808..9223372036854775807)", "-1", "x7fffffffffffffff"},
		{"INTEGER (-9223372036854775808..9223372036854775807)", "9223372036854775807", "xffffffffffffffff"},
		{"INTEGER (5..MAX)", "5", "x0100"},
		{"INTEGER (5..MAX)", "260", "x01ff"},
		{"INTEGER (5..MAX)", "261", "x020100"},
		{"INTEGER (-9223372036854775808..MAX)", "9223372036854775807", "x08ffffffffffffffff"},
		{"INTEGER (5..MAX, ...)", "6", "0 x0101"},
		{"INTEGER (5..MAX, ...)", "4", "1 x0104"},
		{"INTEGER (MIN..5)", "5", "x0105"},
		{"INTEGER (MIN..5, ...)", "128", "1 x020080"},
		{"INTEGER (MIN..5, ...)", "-129", "0 x02ff7f"},
		{"INTEGER (MIN..MAX, ...)", "0", "0 x0100"},
		{"INTEGER", "128", "x020080"},
		{"INTEGER", "0", "x0100"},
		{"ENUMERATED { a }", "a", ""},
		{"ENUMERATED { a (9), b (3), c (5) }", "a", "10"},
		{"ENUMERATED { a (9), b (3), c (5) }", "b", "00"},
		{"ENUMERATED { a (9), b (3), c (5), ..., d, e }", "c", "0 01"},
		{"ENUMERATED { a (9), b (3), c (5), ..., d, e }", "d", "1 0 000000"},
		{"ENUMERATED { a (9), b (3), c (5), ..., d, e }", "e", "1 0 000001"},
		{"ENUMERATED { a (9), b (3), c (5), ..., d, e }", "b", "0 00"},
		{"ENUMERATED { a, b }", "b", "1"},
		{"ENUMERATED { a, b, c, d }", "d", "11"},
		{"OCTET STRING", "'00FF'H", "x0200ff"},
		{"OCTET STRING (SIZE (0..3))", "''H", "00"},
		{"OCTET STRING (SIZE (2))", "'00FF'H", "x00ff"},
		{"OCTET STRING (SIZE (0))", "''H", ""},
		{"OCTET STRING (SIZE (1..4))", "'00FF'H", "01 x00ff"},
		{"OCTET STRING (SIZE (1..4, ...))", "'00FF'H", "0 01 x00ff"},
		{"OCTET STRING (SIZE (1..4, ...))", "''H", "1 x00"},
		{"OCTET STRING (SIZE (1..MAX))", "'AA'H", "x01aa"},
		{"OCTET STRING (SIZE (1..MAX, ...))", "'AA'H", "0 x01aa"},
		{"OCTET STRING (SIZE (0..65535))", "'AA'H", "0000000000000001 xaa"},
		{"OCTET STRING (SIZE (0..65536))", "'AA'H", "x01aa"},
		{"UTF8String", `"é"`, "x02c3a9"},
		{"UTF8String (SIZE (2))", `"é"`, "x02c3a9"},
		{"UTF8String (SIZE (1, ...))", `"é"`, "x02c3a9"},
		{"SEQUENCE OF BOOLEAN", "{ TRUE, FALSE, TRUE }", "x03 101"},
		{"SEQUENCE OF NULL", "{}", "x00"},
		{"SEQUENCE (SIZE (2)) OF INTEGER (0..3)", "{ 1, 2 }", "01 10"},
		{"SEQUENCE (SIZE (0..5)) OF INTEGER (0..3)", "{ 1, 2 }", "010 01 10"},
		{"SEQUENCE (SIZE (0..5, ...)) OF BOOLEAN", "{ TRUE }", "0 001 1"},
		{"SEQUENCE (SIZE (0..1, ...)) OF BOOLEAN", "{ TRUE, TRUE }", "1 x02 11"},
		{"SEQUENCE (SIZE (1..MAX)) OF BOOLEAN", "{ TRUE, TRUE }", "x02 11"},
	} {
		tab := made(t, x.typ)
		encoded(t, tab, x.typ+" "+x.v, noted(t, tab, x.v), x.bits)
	}
}

func TestStructures(t *testing.T) {
	for _, x := range []struct{ typ, v, bits string }{
		{"SEQUENCE { a INTEGER (0..7), b BOOLEAN OPTIONAL }", "{ a 5 }", "0 101"},
		{"SEQUENCE { a INTEGER (0..7), b BOOLEAN OPTIONAL }", "{ a 5, b TRUE }", "1 101 1"},
		{"SEQUENCE { a ENUMERATED { r, s }, b ENUMERATED { r, s, ..., t }, c BOOLEAN }", "{ a r, b r, c TRUE }", "0 00 1"},
		{"SEQUENCE { a CHOICE { r NULL, s NULL }, b CHOICE { r NULL, s NULL, ..., t NULL }, c BOOLEAN }", "{ a r : NULL, b r : NULL, c TRUE }", "0 00 1"},
		{"SEQUENCE {}", "{}", ""},
		{"SEQUENCE { ... }", "{}", "0"},
		{"SEQUENCE { a BOOLEAN DEFAULT TRUE, b NULL, c INTEGER (0..3) OPTIONAL }", "{ a FALSE, b NULL, c 2 }", "11 0 10"},
		{"SEQUENCE { a BOOLEAN DEFAULT TRUE, b NULL, c INTEGER (0..3) OPTIONAL }", "{ b NULL }", "00"},
		{"SEQUENCE { a BOOLEAN, ..., b INTEGER (0..7) }", "{ a TRUE }", "0 1"},
		{"SEQUENCE { a BOOLEAN, ..., b INTEGER (0..7) }", "{ a TRUE, b 5 }", "1 1 0 000000 1 x01a0"},
		{"SEQUENCE { a BOOLEAN, ..., b INTEGER (0..7), c NULL, d OCTET STRING }", "{ a TRUE, c NULL }", "1 1 0 000010 010 x0100"},
		{"SEQUENCE { a BOOLEAN, ..., b INTEGER (0..7), c NULL, d OCTET STRING }", "{ a TRUE, b 1, d 'FF'H }", "1 1 0 000010 101 x0120 x0201ff"},
		{"SEQUENCE { ..., [[ a BOOLEAN, b INTEGER (0..7) OPTIONAL ]], c NULL }", "{ a TRUE }", "1 0 000001 10 x0140"},
		{"SEQUENCE { ..., [[ a BOOLEAN, b INTEGER (0..7) OPTIONAL ]], c NULL }", "{ a TRUE, b 7, c NULL }", "1 0 000001 11 x01f8 x0100"},
		{"SEQUENCE { ..., [[ a BOOLEAN DEFAULT TRUE, b INTEGER (0..7) OPTIONAL ]] }", "{ b 7 }", "1 0 000000 1 x0178"},
		{"SEQUENCE { ..., [[ a NULL ]] }", "{ a NULL }", "1 0 000000 1 x0100"},
		{"SET { a [1] BOOLEAN OPTIONAL, b [0] INTEGER (0..3) DEFAULT 2, c [3] NULL, d [2] BOOLEAN }", "{ a TRUE, b 1, c NULL, d FALSE }", "11 01 1 0"},
		{"SET { a [1] BOOLEAN OPTIONAL, b [0] INTEGER (0..3) DEFAULT 2, c [3] NULL, d [2] BOOLEAN }", "{ a TRUE, c NULL, d FALSE }", "01 1 0"},
		{"SET { a [9] BOOLEAN, ..., b [1] NULL, c [0] INTEGER (0..1) }", "{ a TRUE, c 1 }", "1 1 0 000001 01 x0180"},
		{"CHOICE { a BOOLEAN }", "a : TRUE", "1"},
		{"CHOICE { a BOOLEAN, b NULL, c INTEGER (0..3) }", "c : 2", "10 10"},
		{"CHOICE { a [1] BOOLEAN, b [0] NULL, c [2] INTEGER (0..3) }", "a : TRUE", "01 1"},
		{"CHOICE { a BOOLEAN, b NULL, ..., c INTEGER (0..3), d NULL }", "b : NULL", "0 1"},
		{"CHOICE { a NULL, b NULL, c NULL, d NULL }", "d : NULL", "11"},
		{"SEQUENCE { a BOOLEAN, ..., b INTEGER (0..7) OPTIONAL, c NULL DEFAULT NULL, d BOOLEAN DEFAULT TRUE }", "{ a TRUE, b 5, d FALSE }", "1 1 0 000010 101 x01a0 x0100"},
		{"CHOICE { a BOOLEAN, ..., c INTEGER (0..3), d NULL }", "a : TRUE", "0 1"},
		{"CHOICE { a BOOLEAN, ..., c INTEGER (0..3), d NULL }", "c : 2", "1 0 000000 x0180"},
		{"CHOICE { a BOOLEAN, ..., c INTEGER (0..3), d NULL }", "d : NULL", "1 0 000001 x0100"},
		{"CHOICE { ..., c [1] NULL, [[ d [0] BOOLEAN ]] }", "d : TRUE", "1 0 000001 x0180"},
		{"SEQUENCE { a CHOICE { x NULL, y SEQUENCE { z BOOLEAN OPTIONAL, ... } } }", "{ a y : { z TRUE } }", "1 0 1 1"},
	} {
		tab := made(t, x.typ)
		encoded(t, tab, x.typ+" "+x.v, noted(t, tab, x.v), x.bits)
	}
}

// additions is a type with n additions a0, a1, ..
func additions(n int) string {
	var l []string
	for i := range n {
		l = append(l, "a"+strconv.Itoa(i)+" NULL")
	}
	return strings.Join(l, ", ")
}

func TestManySlots(t *testing.T) {
	for _, x := range []struct {
		n    int
		head string
	}{{64, "0 111111"}, {65, "1 x41"}, {127, "1 x7f"}, {128, "1 x8080"}, {250, "1 x80fa"}} {
		tab := made(t, "SEQUENCE { ..., "+additions(x.n)+" }")
		encoded(t, tab, strconv.Itoa(x.n)+" slots", noted(t, tab, "{ a3 NULL }"), "1 "+x.head+" 0001"+strings.Repeat("0", x.n-4)+" x0100")
	}
	tab := made(t, "CHOICE { ..., "+additions(70)+" }")
	encoded(t, tab, "alternative 63", noted(t, tab, "a63 : NULL"), "1 0 111111 x0100")
	encoded(t, tab, "alternative 64", noted(t, tab, "a64 : NULL"), "1 1 x0140 x0100")
}

func un(rule int, n int64, s string) api.Value {
	return api.Value{Kind: api.Unknown, Rule: rule, N: n, B: []byte(s)}
}

func TestUnknowns(t *testing.T) {
	null := api.Value{Kind: api.Null}
	with := func(v api.Value, raws ...api.Raw) api.Value {
		v.Rule, v.More = api.Uper, raws
		return v
	}
	raw := func(n int, s string) api.Raw { return api.Raw{N: n, B: []byte(s)} }
	encoded(t, made(t, "ENUMERATED { a, ..., b }"), "an item", un(api.Uper, 5, ""), "1 0 000101")
	encoded(t, made(t, "ENUMERATED { a, ..., b }"), "an item", un(api.Uper, 999, ""), "1 1 x0203e7")
	encoded(t, made(t, "ENUMERATED { a (7), ..., b (8) }"), "an item with the number of another", un(api.Uper, 7, ""), "1 0 000111")
	encoded(t, made(t, "CHOICE { a NULL, ..., b NULL }"), "an alternative", un(api.Uper, 1, "xy"), "1 0 000001 x027879")
	encoded(t, made(t, "CHOICE { a NULL, b NULL, ... }"), "an alternative with the number of another", un(api.Uper, 0, "x"), "1 0 000000 x0178")
	encoded(t, made(t, "CHOICE { a NULL, b NULL, ... }"), "an alternative with the number of another", un(api.Uper, 1, "x"), "1 0 000001 x0178")
	seq := made(t, "SEQUENCE { a NULL, ..., b NULL, c BOOLEAN }")
	v := api.Value{Kind: api.Sequence, L: []api.Value{null, {}, {}}}
	encoded(t, seq, "raws", with(v, raw(2, "x")), "1 0 000010 001 x0178")
	v.L[1] = null
	encoded(t, seq, "raws", with(v, raw(3, "x"), raw(5, "yz")), "1 0 000101 100101 x0100 x0178 x02797a")
	encoded(t, seq, "raws", with(v, raw(999, "x")), "1 1 x83e8 1"+strings.Repeat("0", 998)+"1 x0100 x0178")
}

func TestLongValues(t *testing.T) {
	octets := made(t, "OCTET STRING")
	v := api.Value{Kind: api.Octets, B: make([]byte, 20000)}
	encoded(t, octets, "two fragments", v, "xc1"+strings.Repeat("00", 16384)+" x8e20"+strings.Repeat("00", 3616))
	v.B = v.B[:16384]
	encoded(t, octets, "a fragment", v, "xc1"+strings.Repeat("00", 16384)+" x00")
	fixed := made(t, "OCTET STRING (SIZE (20000))")
	v.B = make([]byte, 20000)
	encoded(t, fixed, "a fixed size", v, "x"+strings.Repeat("00", 20000))
	list := made(t, "SEQUENCE OF BOOLEAN")
	bits := api.Value{Kind: api.ListOf}
	for range 300 {
		bits.L = append(bits.L, api.Value{Kind: api.Boolean, N: 1})
	}
	encoded(t, list, "a list", bits, "x812c "+strings.Repeat("1", 300))
}

func TestRefuses(t *testing.T) {
	null := api.Value{Kind: api.Null}
	x := made(t, "SEQUENCE { a ENUMERATED { r, ... }, b NULL OPTIONAL, ... }")
	for i, y := range []struct {
		i    int
		v    api.Value
		want api.Errno
	}{
		{-1, null, api.ErrValue}, {9, null, api.ErrValue}, {0, null, api.ErrValue}, {0, api.Value{}, api.ErrValue},
		{0, api.Value{Kind: api.Sequence, L: []api.Value{un(api.Der, 5, ""), {}}}, api.ErrRule},
		{0, api.Value{Kind: api.Sequence, L: []api.Value{un(api.Uper, 5, ""), {}}, Rule: api.Der, More: []api.Raw{{B: []byte("\x05\x00")}}}, api.ErrRule},
		{0, api.Value{Kind: api.Sequence, L: []api.Value{un(api.Der, 5, ""), null, null}}, api.ErrValue},
		{0, api.Value{Kind: api.Sequence, L: []api.Value{{Kind: api.Unknown}, {}}}, api.ErrValue},
		{1, un(api.Der, 5, ""), api.ErrRule},
	} {
		if got, e := uper.Encode(x, y.i, y.v); e != y.want || len(got) != 0 {
			t.Errorf("P19.1: row %d: % x, error %d; want %d", i, got, e, y.want)
		}
	}
}

func TestLimit(t *testing.T) {
	x := made(t, "OCTET STRING")
	if b, e := uper.Encode(x, 0, api.Value{Kind: api.Octets, B: make([]byte, api.MaxOctets-3)}); len(b) != api.MaxOctets || e != api.OK {
		t.Errorf("P19.1: %d octets, error %d", len(b), e)
	}
	if b, e := uper.Encode(x, 0, api.Value{Kind: api.Octets, B: make([]byte, api.MaxOctets-2)}); len(b) != 0 || e != api.ErrLimit {
		t.Errorf("P19.1: %d octets, error %d", len(b), e)
	}
	list := made(t, "SEQUENCE OF SEQUENCE { ..., a OCTET STRING }")
	part := api.Value{Kind: api.Sequence, L: []api.Value{{Kind: api.Octets, B: make([]byte, api.MaxOctets)}}, Rule: api.Uper}
	for s := 1; s < 1000; s++ {
		part.More = append(part.More, api.Raw{N: s, B: part.L[0].B})
	}
	v := api.Value{Kind: api.ListOf}
	for range 2000 {
		v.L = append(v.L, part)
	}
	if b, e := uper.Encode(list, 0, v); len(b) != 0 || e != api.ErrLimit {
		t.Errorf("P19.1: %d octets, error %d", len(b), e)
	}
}

func TestEncodingIsApart(t *testing.T) {
	x := made(t, "OCTET STRING (SIZE (2))")
	v := api.Value{Kind: api.Octets, B: []byte{1, 2}}
	got, _ := uper.Encode(x, 0, v)
	got[0] = 9
	if v.B[0] != 1 {
		t.Error("R3: the encoding is the value's")
	}
}

func TestStrangeTables(t *testing.T) {
	null, one := api.Value{Kind: api.Null}, api.Value{Kind: api.Integer, N: 1}
	x := api.Table{Types: []api.Type{
		{Kind: api.Sequence, Root: -3, Fields: []api.Field{{Type: 2}}},
		{Kind: api.Choice, Root: 8, More: true, Fields: []api.Field{{Type: 2}}},
		{Kind: api.Null},
		{Kind: api.Enumerated, Root: -5, Items: []api.Item{{Number: 1}}},
		{Kind: api.Integer, Con: api.Con{Has: true, More: true, HasLow: true, HasHigh: true, Low: 7, High: 3}},
		{Kind: api.ListOf, Of: 2, Con: api.Con{HasLow: true, HasHigh: true, Low: 7, High: 3}},
	}}
	for i := range x.Types {
		for _, v := range []api.Value{null, one, {Kind: api.Enumerated, N: 1}, {Kind: x.Types[i].Kind, L: []api.Value{null}}, un(api.Uper, 3, "x"), un(api.Uper, 30, "")} {
			uper.Encode(x, i, v)
		}
	}
}
