package note_test

import (
	"reflect"
	"strings"
	"testing"

	"ogham/api"
	"ogham/note"
	"ogham/same"
	"ogham/syntax"
	"ogham/table"
)

// made is the table of a module whose first name, A, is this type.
func made(t *testing.T, text string) api.Table {
	t.Helper()
	m, at, e := syntax.Parse("M DEFINITIONS AUTOMATIC TAGS ::= BEGIN A ::= " + text + " END")
	if e != api.OK {
		t.Fatalf("Parse of %s: error %d at %d", text, e, at)
	}
	x, _, e := table.Make(m)
	if e != api.OK {
		t.Fatalf("Make of %s: error %d", text, e)
	}
	return x
}

func n(kind int, v int64) api.Value        { return api.Value{Kind: kind, N: v} }
func b(kind int, s string) api.Value       { return api.Value{Kind: kind, B: []byte(s)} }
func l(kind int, v ...api.Value) api.Value { return api.Value{Kind: kind, L: v} }

var null = api.Value{Kind: api.Null}

const (
	deepTypes = "SEQUENCE { a INTEGER DEFAULT 5, b CHOICE { x SEQUENCE OF BOOLEAN, y NULL } OPTIONAL, c SET { d OCTET STRING, ..., e UTF8String }, ..., f ENUMERATED { red, green, ..., blue } DEFAULT green }"
)

func TestPrintAndParse(t *testing.T) {
	none := api.Value{}
	for _, x := range []struct {
		typ, text string
		v         api.Value
	}{
		{"SEQUENCE { a INTEGER, b BOOLEAN OPTIONAL }", "{ a 5, b TRUE }", l(api.Sequence, n(api.Integer, 5), n(api.Boolean, 1))},
		{"SEQUENCE { a INTEGER, b BOOLEAN OPTIONAL }", "{ a -5 }", l(api.Sequence, n(api.Integer, -5), none)},
		{"BOOLEAN", "TRUE", n(api.Boolean, 1)},
		{"BOOLEAN", "FALSE", n(api.Boolean, 0)},
		{"INTEGER", "-9223372036854775808", n(api.Integer, -1<<63)},
		{"ENUMERATED { a, b (7), ..., c (9) }", "b", n(api.Enumerated, 7)},
		{"ENUMERATED { a, b (7), ..., c (9) }", "c", n(api.Enumerated, 9)},
		{"NULL", "NULL", null},
		{"OCTET STRING", "''H", b(api.Octets, "")},
		{"OCTET STRING", "'09AFFF'H", b(api.Octets, "\x09\xaf\xff")},
		{"UTF8String", `""`, b(api.Text, "")},
		{"UTF8String", `"a ""b"" é"`, b(api.Text, `a "b" é`)},
		{"SEQUENCE OF INTEGER", "{}", l(api.ListOf)},
		{"SEQUENCE OF INTEGER", "{ 1 }", l(api.ListOf, n(api.Integer, 1))},
		{"SEQUENCE OF SEQUENCE OF INTEGER", "{ { 1, 2 }, {}, { 3 } }", l(api.ListOf, l(api.ListOf, n(api.Integer, 1), n(api.Integer, 2)), l(api.ListOf), l(api.ListOf, n(api.Integer, 3)))},
		{"CHOICE { a NULL, b CHOICE { c INTEGER } }", "b : c : 5", api.Value{Kind: api.Choice, N: 1, L: []api.Value{{Kind: api.Choice, L: []api.Value{n(api.Integer, 5)}}}}},
		{"CHOICE { a NULL, ..., b SET {} }", "b : {}", api.Value{Kind: api.Choice, N: 1, L: []api.Value{l(api.Set)}}},
		{"SEQUENCE {}", "{}", l(api.Sequence)},
		{"SET { b [1] NULL OPTIONAL, a [0] BOOLEAN }", "{ b NULL, a FALSE }", l(api.Set, null, n(api.Boolean, 0))},
		{"SET { b [1] NULL OPTIONAL, a [0] BOOLEAN DEFAULT TRUE }", "{}", l(api.Set, none, none)},
		{deepTypes, `{ a 4, b x : { TRUE, FALSE }, c { d 'AB'H, e "x" }, f blue }`, l(api.Sequence, n(api.Integer, 4), api.Value{Kind: api.Choice, L: []api.Value{l(api.ListOf, n(api.Boolean, 1), n(api.Boolean, 0))}}, l(api.Set, b(api.Octets, "\xab"), b(api.Text, "x")), n(api.Enumerated, 2))},
		{deepTypes, "{ c { d ''H } }", l(api.Sequence, none, none, l(api.Set, b(api.Octets, ""), none), none)},
	} {
		tab := made(t, x.typ)
		if got, e := note.Print(tab, 0, x.v); got != x.text || e != api.OK {
			t.Errorf("P13.1: Print of %s: %q, error %d; want %q", x.typ, got, e, x.text)
		}
		tight := strings.NewReplacer("{ ", "{", " }", "}", ", ", ",", " : ", ":").Replace(x.text)
		loose := "-- c -- " + strings.NewReplacer("{", " {\n", "}", " } ", ",", "\t,").Replace(x.text) + "--"
		for _, text := range []string{x.text, tight, loose} {
			got, at, e := note.Parse(tab, 0, text)
			if !same.Values(got, x.v) || at != 0 || e != api.OK {
				t.Errorf("P13.2: Parse of %q: %+v, error %d at %d", text, got, e, at)
			}
		}
	}
}

func TestParseOfDefaults(t *testing.T) {
	tab := made(t, `SEQUENCE { a INTEGER DEFAULT 5, b OCTET STRING DEFAULT '01'H, c ENUMERATED { r, s } DEFAULT s, d UTF8String DEFAULT "", e NULL DEFAULT NULL, f BOOLEAN DEFAULT FALSE, ..., [[ g NULL, h NULL DEFAULT NULL ]] }`)
	none := api.Value{}
	for text, want := range map[string]api.Value{
		`{ a 5, b '01'H, c s, d "", e NULL, f FALSE }`: l(api.Sequence, none, none, none, none, none, none, none, none),
		`{ a 6, b '02'H, c r, d "x", f TRUE, g NULL }`: l(api.Sequence, n(api.Integer, 6), b(api.Octets, "\x02"), n(api.Enumerated, 0), b(api.Text, "x"), none, n(api.Boolean, 1), null, none),
		`{ h NULL }`: l(api.Sequence, none, none, none, none, none, none, none, none),
	} {
		if got, at, e := note.Parse(tab, 0, text); !same.Values(got, want) || e != api.OK {
			t.Errorf("P13.2: Parse of %s: %+v, error %d at %d", text, got, e, at)
		}
	}
}

func TestPrintRefuses(t *testing.T) {
	tab := made(t, "SEQUENCE { a ENUMERATED { r, ... }, ... }")
	red := n(api.Enumerated, 0)
	for i, x := range []struct {
		i    int
		v    api.Value
		want api.Errno
	}{
		{0, l(api.Sequence, red), api.OK},
		{0, l(api.Sequence), api.ErrValue},
		{0, api.Value{Kind: api.Unknown}, api.ErrValue},
		{5, l(api.Sequence, red), api.ErrValue},
		{-1, red, api.ErrValue},
		{0, l(api.Sequence, api.Value{Kind: api.Unknown}), api.ErrValue},
		{0, l(api.Sequence, api.Value{Kind: api.Unknown, Rule: api.Der, N: 5}), api.ErrRule},
		{1, api.Value{Kind: api.Unknown, Rule: api.Uper, N: 5}, api.ErrRule},
		{0, api.Value{Kind: api.Sequence, L: []api.Value{red}, Rule: api.Uper, More: []api.Raw{{B: []byte("x")}}}, api.ErrRule},
	} {
		got, e := note.Print(tab, x.i, x.v)
		if e != x.want || (e != api.OK) != (got == "") {
			t.Errorf("P13.1: row %d: %q, error %d; want %d", i, got, e, x.want)
		}
	}
}

func TestPrintLimit(t *testing.T) {
	octets := made(t, "OCTET STRING")
	if s, e := note.Print(octets, 0, b(api.Octets, strings.Repeat("x", 3998))); len(s) != 7999 || e != api.OK {
		t.Errorf("P13.1: %d bytes, error %d", len(s), e)
	}
	if s, e := note.Print(octets, 0, b(api.Octets, strings.Repeat("x", 3999))); s != "" || e != api.ErrLimit {
		t.Errorf("P13.1: %d bytes, error %d", len(s), e)
	}
	text := made(t, "UTF8String")
	if s, e := note.Print(text, 0, b(api.Text, strings.Repeat("x", api.MaxText-2))); len(s) != api.MaxText || e != api.OK {
		t.Errorf("P13.1: %d bytes, error %d", len(s), e)
	}
	list := made(t, "SEQUENCE OF SEQUENCE OF NULL")
	v := l(api.ListOf)
	for range 2500 {
		v.L = append(v.L, l(api.ListOf))
	}
	if s, e := note.Print(list, 0, v); s != "" || e != api.ErrLimit {
		t.Errorf("P13.1: %d bytes, error %d", len(s), e)
	}
	if s, e := note.Print(list, 0, l(api.ListOf, v.L[:1999]...)); len(s) != 2+1999*2+1998*2+2 || e != api.OK {
		t.Errorf("P13.1: %d bytes, error %d", len(s), e)
	}
}

// refused reports a text that is not refused with this error, where the sign | marks its position.
func refused(t *testing.T, typ, marked string, want api.Errno) {
	t.Helper()
	at := strings.Index(marked, "|")
	text := marked[:at] + marked[at+1:]
	v, pos, e := note.Parse(made(t, typ), 0, text)
	if e != want || pos != at || !reflect.DeepEqual(v, api.Value{}) {
		t.Errorf("P13.2: %s: Parse of %q: error %d at %d; want %d at %d", typ, text, e, pos, want, at)
	}
}

func TestParseSyntax(t *testing.T) {
	for typ, texts := range map[string][]string{
		"BOOLEAN":                   {"|", "|true", "|NULL", "|1", "TRUE |TRUE", "|{}", "|True"},
		"INTEGER":                   {"|", "|x", "|'01'H", "5 |,", "5 |6", `|"5"`, "|MIN"},
		"NULL":                      {"|TRUE", "|null", "NULL |}"},
		"OCTET STRING":              {"|0", `|""`, "''H|''H"},
		"UTF8String":                {"|''H", `"" |""`, "|x"},
		"ENUMERATED { a, ..., b }":  {"|c", "|A", "|0", "a |b", `|"a"`, "|TRUE"},
		"SEQUENCE OF INTEGER":       {"|", "|1", "{|", "{ |, }", "{ 1 |2 }", "{ 1, |}", "{ 1|", "{} |1", "{ |a }", "|[1]"},
		"CHOICE { a NULL, b NULL }": {"|", "|c : NULL", "|A : NULL", "a |NULL", "a :|", "a : |5", "|{ a NULL }", "a : NULL |,", `|"a" : NULL`},
		"SEQUENCE { a NULL OPTIONAL, b INTEGER OPTIONAL }":    {"|", "{|", "{ |c 5 }", "{ b 5, |a NULL }", "{ a NULL, |a NULL }", "{ a NULL, |}", "{ a NULL |b 5 }", "{ a |}", "{ a |: NULL }", "{ |NULL }", "{ a NULL|", "{} |{}", `{ |"a" NULL }`},
		"SET { b [1] NULL OPTIONAL, a [0] INTEGER OPTIONAL }": {"{ a 5, |b NULL }"},
	} {
		for _, text := range texts {
			refused(t, typ, text, api.ErrSyntax)
		}
	}
}

func TestParseRefuses(t *testing.T) {
	refused(t, "NULL", "NULL |;", api.ErrToken)
	refused(t, "INTEGER", "|99999999999999999999", api.ErrToken)
	refused(t, "NULL", "|"+strings.Repeat(" ", api.MaxText+1), api.ErrLimit)
	refused(t, "INTEGER (0..7)", "|8", api.ErrValue)
	refused(t, "OCTET STRING (SIZE (1))", "|''H", api.ErrValue)
	refused(t, "SEQUENCE { a NULL, b NULL }", "|{ a NULL }", api.ErrValue)
	refused(t, "SEQUENCE { ..., [[ a NULL, b NULL ]] }", "|{ b NULL }", api.ErrValue)
	refused(t, "SEQUENCE (SIZE (2)) OF NULL", "|{ NULL }", api.ErrValue)
	refused(t, "SEQUENCE OF SEQUENCE { a NULL OPTIONAL }", "|{"+strings.Repeat("{},", 2500)+"{}}", api.ErrValue)
	tab := made(t, "NULL")
	for _, i := range []int{-1, 1, 1 << 40} {
		if v, at, e := note.Parse(tab, i, "x"); e != api.ErrNone || at != 0 || v.Kind != 0 {
			t.Errorf("P13.2: Parse for the type %d: error %d at %d", i, e, at)
		}
		if _, at, e := note.Parse(tab, i, "x ;"); e != api.ErrToken || at != 2 {
			t.Errorf("P13.2: Parse of no tokens for the type %d: error %d at %d", i, e, at)
		}
	}
}

func TestParseDepth(t *testing.T) {
	deep := made(t, strings.Repeat("SEQUENCE OF ", api.MaxDepth)+"NULL")
	text := strings.Repeat("{ ", api.MaxDepth) + "NULL" + strings.Repeat(" }", api.MaxDepth)
	v, at, e := note.Parse(deep, 0, text)
	if e != api.OK {
		t.Fatalf("P13.2: error %d at %d", e, at)
	}
	if got, e := note.Print(deep, 0, v); got != text || e != api.OK {
		t.Errorf("P13.1: %q, error %d", got, e)
	}
	// No table that Make returns is so deep.
	for kind, part := range map[int]string{api.Choice: "a : ", api.Set: "{ a ", api.Sequence: "{ a "} {
		x := api.Table{Types: []api.Type{{Kind: kind, Fields: []api.Field{{Name: "a"}}}}}
		if _, at, e := note.Parse(x, 0, strings.Repeat(part, 20)); e != api.ErrLimit || at != len(part)*(api.MaxDepth+1) {
			t.Errorf("P13.2: the kind %d: error %d at %d", kind, e, at)
		}
	}
	endless := api.Table{Types: []api.Type{{Kind: api.ListOf}}}
	if _, at, e := note.Parse(endless, 0, strings.Repeat("{", 20)); e != api.ErrLimit || at != api.MaxDepth+1 {
		t.Errorf("P13.2: error %d at %d", e, at)
	}
}

func TestStrangeTables(t *testing.T) {
	x := api.Table{Types: []api.Type{
		{Kind: api.Sequence, Fields: []api.Field{{Name: "a", Type: 9}, {Name: "b", Type: -1}}},
		{Kind: api.Choice, Fields: []api.Field{{Name: "a", Type: 7}}},
		{Kind: 77}, {Kind: api.ListOf, Of: -2}, {},
	}}
	for i := range x.Types {
		for _, text := range []string{"{ a 5 }", "a : 5", "{ 5 }", "5", "{}"} {
			note.Parse(x, i, text)
		}
		note.Print(x, i, api.Value{Kind: x.Types[i].Kind, L: []api.Value{null}})
	}
}
