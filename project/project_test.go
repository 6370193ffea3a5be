package project_test

import (
	"reflect"
	"strings"
	"testing"

	"ogham/api"
	"ogham/note"
	"ogham/project"
	"ogham/same"
	"ogham/syntax"
	"ogham/table"
)

// made is the table of a module whose first name, A, is this type.
func made(t *testing.T, text string) api.Table {
	t.Helper()
	m, at, e := syntax.Parse("M DEFINITIONS AUTOMATIC TAGS ::= BEGIN A ::= " + text + " END")
	if e != api.OK {
		t.Fatalf("Parse of %s: error %d at %d", text, e, at)
	}
	x, _, e := table.Make(m)
	if e != api.OK {
		t.Fatalf("Make of %s: error %d", text, e)
	}
	return x
}

func noted(t *testing.T, x api.Table, text string) api.Value {
	t.Helper()
	v, at, e := note.Parse(x, 0, text)
	if e != api.OK {
		t.Fatalf("%s: error %d at %d", text, e, at)
	}
	return v
}

func l(kind int, v ...api.Value) api.Value { return api.Value{Kind: kind, L: v} }

var (
	unknown = api.Value{Kind: api.Unknown}
	null    = api.Value{Kind: api.Null}
)

func TestOver(t *testing.T) {
	for _, x := range []struct{ from, to, v, want string }{
		{"BOOLEAN", "BOOLEAN", "TRUE", "TRUE"},
		{"INTEGER (0..7)", "INTEGER (0..7)", "5", "5"},
		{"NULL", "NULL", "NULL", "NULL"},
		{"OCTET STRING", "OCTET STRING", "'0A'H", "'0A'H"},
		{"UTF8String", "UTF8String", `"x"`, `"x"`},
		{"ENUMERATED { a, ... }", "ENUMERATED { a, ..., b }", "a", "a"},
		{"ENUMERATED { a, ..., b }", "ENUMERATED { a, ..., b, c }", "b", "b"},
		{"ENUMERATED { a, ..., b, c }", "ENUMERATED { a, ..., b }", "b", "b"},
		{"SEQUENCE OF SEQUENCE { a NULL, ... }", "SEQUENCE OF SEQUENCE { a NULL, ..., b NULL }", "{ { a NULL }, { a NULL } }", "{ { a NULL }, { a NULL } }"},
		{"CHOICE { a NULL, ..., b INTEGER }", "CHOICE { a NULL, ..., b INTEGER, c NULL }", "b : 5", "b : 5"},
		{"CHOICE { a NULL, ..., b INTEGER }", "CHOICE { a NULL, ... }", "a : NULL", "a : NULL"},
		{"SEQUENCE { a INTEGER, ..., b NULL, c BOOLEAN }", "SEQUENCE { a INTEGER, ..., b NULL }", "{ a 5, b NULL, c TRUE }", "{ a 5, b NULL }"},
		{"SEQUENCE { a INTEGER, ... }", "SEQUENCE { a INTEGER, ..., b NULL, [[ c NULL ]] }", "{ a 5 }", "{ a 5 }"},
		{"SET { a INTEGER, b NULL OPTIONAL, ..., c NULL }", "SET { a INTEGER, b NULL OPTIONAL, ... }", "{ a 5, c NULL }", "{ a 5 }"},
		{"SEQUENCE { a SET { b NULL, ..., c NULL } OPTIONAL }", "SEQUENCE { a SET { b NULL, ... } OPTIONAL }", "{ a { b NULL, c NULL } }", "{ a { b NULL } }"},
		{"SEQUENCE { a SET { b NULL, ..., c NULL } OPTIONAL }", "SEQUENCE { a SET { b NULL, ... } OPTIONAL }", "{}", "{}"},
		{"SEQUENCE { a NULL }", "SEQUENCE { a NULL, ... }", "{ a NULL }", "{ a NULL }"},
	} {
		a, b := made(t, x.from), made(t, x.to)
		v := noted(t, a, x.v)
		got, e := project.Value(a, 0, b, 0, v)
		if e != api.OK || !same.Values(got, noted(t, b, x.want)) {
			t.Errorf("P14.1: %s over to %s: %+v, error %d", x.v, x.to, got, e)
		}
		if own, e := project.Value(a, 0, a, 0, v); e != api.OK || !same.Values(own, v) {
			t.Errorf("consequence: %s as a value of its own type: %+v, error %d", x.v, own, e)
		}
		if twice, e := project.Value(b, 0, b, 0, got); e != api.OK || !same.Values(twice, got) {
			t.Errorf("consequence: %s put over twice: %+v, error %d", x.v, twice, e)
		}
	}
}

func TestUnknowns(t *testing.T) {
	item := func(n int64) api.Value { return api.Value{Kind: api.Enumerated, N: n} }
	e1, e2 := "ENUMERATED { a, b (2), ... }", "ENUMERATED { a, b (2), ..., c }"
	c1, c2 := "CHOICE { a NULL, ... }", "CHOICE { a NULL, ..., b "+e2+" }"
	for i, x := range []struct {
		from, to string
		v, want  api.Value
	}{
		{e2, e1, item(3), unknown},
		{e2, e1, item(2), item(2)},
		{e1, e2, unknown, unknown},
		{c2, c1, api.Value{Kind: api.Choice, N: 1, L: []api.Value{item(3)}}, unknown},
		{c2, "CHOICE { a NULL, ..., b " + e1 + " }", api.Value{Kind: api.Choice, N: 1, L: []api.Value{item(3)}}, api.Value{Kind: api.Choice, N: 1, L: []api.Value{unknown}}},
		{c1, c2, unknown, unknown},
		{"SEQUENCE OF " + e2, "SEQUENCE OF " + e1, l(api.ListOf, item(0), item(3), unknown), l(api.ListOf, item(0), unknown, unknown)},
		{"SEQUENCE { x " + c2 + " OPTIONAL, y " + e2 + " DEFAULT a }", "SEQUENCE { x " + c1 + " OPTIONAL, y " + e1 + " DEFAULT a }", l(api.Sequence, unknown, unknown), l(api.Sequence, unknown, unknown)},
		{"SEQUENCE { x " + c2 + " OPTIONAL, y " + e2 + " DEFAULT a }", "SEQUENCE { x " + c1 + " OPTIONAL, y " + e1 + " DEFAULT a }", l(api.Sequence, api.Value{}, item(3)), l(api.Sequence, api.Value{}, unknown)},
		{c1, "BOOLEAN", unknown, unknown}, // whatever the types are
	} {
		got, e := project.Value(made(t, x.from), 0, made(t, x.to), 0, x.v)
		if e != api.OK || !reflect.DeepEqual(got, x.want) {
			t.Errorf("P14.1: row %d: %+v, error %d; want %+v", i, got, e, x.want)
		}
	}
}

func TestNoValue(t *testing.T) {
	raw := []api.Raw{{B: []byte("\x05\x00")}}
	der := api.Value{Kind: api.Unknown, Rule: api.Der, N: 9}
	for i, x := range []struct {
		typ string
		v   api.Value
	}{
		{"INTEGER (0..7)", api.Value{Kind: api.Integer, N: 8}},
		{"INTEGER", null},
		{"INTEGER", unknown},
		{"INTEGER", api.Value{}},
		{"ENUMERATED { a }", unknown},
		{"CHOICE { a NULL }", unknown},
		{"ENUMERATED { a, ... }", der},
		{"ENUMERATED { a, ... }", api.Value{Kind: api.Unknown, N: 1}},
		{"ENUMERATED { a, ... }", api.Value{Kind: api.Unknown, Rule: api.Uper}},
		{"ENUMERATED { a, ... }", api.Value{Kind: api.Unknown, L: []api.Value{{}}}},
		{"CHOICE { a NULL, ... }", api.Value{Kind: api.Unknown, B: []byte("\x04\x00")}},
		{"SEQUENCE { a NULL, ... }", api.Value{Kind: api.Sequence, L: []api.Value{null}, Rule: api.Der, More: raw}},
		{"SEQUENCE { a NULL, ... }", api.Value{Kind: api.Sequence, L: []api.Value{null}, Rule: api.Der}},
		{"SEQUENCE { a NULL OPTIONAL, ... }", l(api.Sequence, unknown)},
		{"SEQUENCE { a ENUMERATED { r, ... } OPTIONAL, ... }", l(api.Sequence, der)},
		{"SEQUENCE { a ENUMERATED { r, ... }, b NULL, ... }", l(api.Sequence, unknown)},
		{"SEQUENCE OF NULL", l(api.ListOf, unknown)},
		{"SEQUENCE OF ENUMERATED { r, ... }", l(api.ListOf, unknown, api.Value{Kind: api.Enumerated, N: 1})},
		{"CHOICE { a NULL, ... }", api.Value{Kind: api.Choice, N: 1, L: []api.Value{unknown}}},
		{"CHOICE { a NULL, ... }", api.Value{Kind: api.Choice, N: -1, L: []api.Value{null}}},
		{"CHOICE { a NULL, ... }", api.Value{Kind: api.Choice, L: []api.Value{null, null}}},
	} {
		tab := made(t, x.typ)
		got, e := project.Value(tab, 0, api.Table{}, 0, x.v)
		if e != api.ErrValue || !reflect.DeepEqual(got, api.Value{}) {
			t.Errorf("P14.1: row %d: %+v, error %d", i, got, e)
		}
	}
	if _, e := project.Value(made(t, "NULL"), 1, made(t, "NULL"), 0, null); e != api.ErrValue {
		t.Errorf("P14.1: no type: error %d", e)
	}
}

func TestNoExtension(t *testing.T) {
	for i, x := range []struct{ from, to, v string }{
		{"INTEGER", "BOOLEAN", "5"},
		{"SEQUENCE {}", "SET {}", "{}"},
		{"SEQUENCE OF NULL", "SEQUENCE {}", "{}"},
		{"SEQUENCE OF INTEGER", "SEQUENCE OF BOOLEAN", "{ 5 }"},
		{"CHOICE { a NULL, b NULL }", "CHOICE { a NULL, b BOOLEAN }", "b : NULL"},
		{"SEQUENCE { a NULL, b NULL }", "SEQUENCE { a NULL, b INTEGER }", "{ a NULL, b NULL }"},
		{"SEQUENCE { a NULL, ..., b NULL }", "SEQUENCE { a NULL }", "{ a NULL }"},
		{"SEQUENCE { a NULL }", "SEQUENCE { a NULL, ..., b NULL }", "{ a NULL }"},
		{"SET { a NULL }", "SET { a NULL, b NULL OPTIONAL }", "{ a NULL }"},
		{"SEQUENCE OF SET { a NULL }", "SEQUENCE OF SET { a NULL, b NULL }", "{ { a NULL } }"},
	} {
		a, b := made(t, x.from), made(t, x.to)
		got, e := project.Value(a, 0, b, 0, noted(t, a, x.v))
		if e != api.ErrExt || !reflect.DeepEqual(got, api.Value{}) {
			t.Errorf("P14.1: row %d: %+v, error %d", i, got, e)
		}
	}
	a := made(t, "CHOICE { a NULL, ... }")
	for _, k := range []int{-1, 2, 1 << 40} {
		if _, e := project.Value(a, 0, a, k, noted(t, a, "a : NULL")); e != api.ErrExt {
			t.Errorf("P14.1: over to the type %d: error %d", k, e)
		}
		if _, e := project.Value(a, 0, a, k, unknown); e != api.ErrExt {
			t.Errorf("P14.1: an Unknown over to the type %d: error %d", k, e)
		}
	}
}

func TestManyItems(t *testing.T) {
	a := made(t, "ENUMERATED { a (1), b (0), c (2), d (-1), e (9223372036854775807), ... }")
	if got, e := project.Value(a, 0, a, 0, unknown); e != api.OK || !reflect.DeepEqual(got, unknown) {
		t.Errorf("P14.1: %+v, error %d", got, e)
	}
}

func TestLimits(t *testing.T) {
	deep := made(t, strings.Repeat("SEQUENCE OF ", api.MaxDepth)+"NULL")
	v := noted(t, deep, strings.Repeat("{", api.MaxDepth)+"NULL"+strings.Repeat("}", api.MaxDepth))
	if got, e := project.Value(deep, 0, deep, 0, v); e != api.OK || !same.Values(got, v) {
		t.Errorf("P14.1: a deep value: error %d", e)
	}
	endless := api.Table{Types: []api.Type{{Kind: api.ListOf}}}
	list := make([]api.Value, 2)
	for i := range list {
		list[i] = api.Value{Kind: api.ListOf, L: list}
	}
	if _, e := project.Value(endless, 0, endless, 0, list[0]); e != api.ErrValue {
		t.Errorf("R1: a value that contains itself: error %d", e)
	}
	many := l(api.ListOf)
	for range api.MaxItems {
		many.L = append(many.L, l(api.ListOf))
	}
	if _, e := project.Value(endless, 0, endless, 0, many); e != api.ErrValue {
		t.Errorf("P14.1: a value of many values: error %d", e)
	}
}

func TestValueIsApart(t *testing.T) {
	a := made(t, "SEQUENCE OF OCTET STRING")
	v := noted(t, a, "{ '01'H }")
	got, _ := project.Value(a, 0, a, 0, v)
	got.L[0].B[0] = 9
	got.L[0].Kind = 0
	if v.L[0].B[0] != 1 || v.L[0].Kind != api.Octets {
		t.Error("R3: the value shares memory with its origin")
	}
}
