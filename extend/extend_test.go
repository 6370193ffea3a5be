package extend_test

import (
	"strconv"
	"strings"
	"testing"

	"ogham/api"
	"ogham/extend"
	"ogham/syntax"
	"ogham/table"
)

// made is the table of a module with these assignments.
func made(t *testing.T, tagging, assignments string) api.Table {
	t.Helper()
	m, at, e := syntax.Parse("M DEFINITIONS " + tagging + " TAGS ::= BEGIN " + assignments + " END")
	if e != api.OK {
		t.Fatalf("Parse of %s: error %d at %d", assignments, e, at)
	}
	x, _, e := table.Make(m)
	if e != api.OK {
		t.Fatalf("Make of %s: error %d", assignments, e)
	}
	return x
}

func TestType(t *testing.T) {
	for _, x := range []struct {
		a, b string
		want bool
	}{
		{"SEQUENCE { a NULL, ... }", "SEQUENCE { a NULL, ..., b NULL }", true},
		{"SEQUENCE { a NULL, ... }", "SEQUENCE { a NULL, b NULL, ... }", false},
		{"SEQUENCE { a NULL, ..., b NULL }", "SEQUENCE { a NULL, ... }", false},
		{"SEQUENCE { a NULL }", "SEQUENCE { a NULL, b NULL }", false},
		{"SEQUENCE { a NULL }", "SEQUENCE { a NULL, ... }", false},
		{"SEQUENCE { a NULL, ... }", "SEQUENCE { a NULL }", false},
		{"SEQUENCE { a NULL, ... }", "SEQUENCE { b NULL, ... }", false},
		{"SEQUENCE { a NULL, ... }", "SEQUENCE { a NULL OPTIONAL, ... }", false},
		{"SEQUENCE { a NULL, ... }", "SEQUENCE { a NULL DEFAULT NULL, ... }", false},
		{"SEQUENCE { a INTEGER DEFAULT 4 }", "SEQUENCE { a INTEGER DEFAULT 5 }", false},
		{"SEQUENCE { a OCTET STRING DEFAULT '01'H }", "SEQUENCE { a OCTET STRING DEFAULT '01'H }", true},
		{"SEQUENCE { a OCTET STRING DEFAULT '01'H }", "SEQUENCE { a OCTET STRING DEFAULT '02'H }", false},
		{"SEQUENCE { ... }", "SET { ... }", false},
		{"SEQUENCE { ..., a NULL, b NULL }", "SEQUENCE { ..., b NULL, a NULL }", false},
		{"SEQUENCE { ..., a NULL }", "SEQUENCE { ..., a NULL, b NULL, [[ c NULL ]] }", true},
		{"SEQUENCE { ..., a NULL }", "SEQUENCE { ..., b NULL, a NULL }", false},
		{"SEQUENCE { ..., a NULL }", "SEQUENCE { ..., [[ a NULL ]] }", false},
		{"SEQUENCE { ..., [[ a NULL ]] }", "SEQUENCE { ..., [[ a NULL ]], [[ b NULL ]] }", true},
		{"SEQUENCE { ..., [[ a NULL ]] }", "SEQUENCE { ..., [[ a NULL, b NULL ]] }", false},
		{"SEQUENCE { ..., [[ a NULL, b NULL ]] }", "SEQUENCE { ..., [[ a NULL ]], [[ b NULL ]] }", false},
		{"SEQUENCE { ..., [[ a NULL, b NULL ]] }", "SEQUENCE { ..., [[ a NULL ]], b NULL }", false},
		{"SEQUENCE { ..., [[ a NULL ]], b NULL }", "SEQUENCE { ..., [[ a NULL ]], b NULL, c NULL }", true},
		{"SEQUENCE { a SEQUENCE { ... }, ... }", "SEQUENCE { a SEQUENCE { ..., b NULL }, ..., c NULL }", true},
		{"SEQUENCE { a SEQUENCE { } }", "SEQUENCE { a SEQUENCE { b NULL } }", false},
		{"SEQUENCE { ..., a SEQUENCE { ... } }", "SEQUENCE { ..., a SEQUENCE { ..., b NULL } }", true},
		{"SEQUENCE { ..., a SEQUENCE { } }", "SEQUENCE { ..., a SET { } }", false},
		{"SET { a NULL, ... }", "SET { a NULL, ..., b NULL }", true},
		{"CHOICE { a NULL, ... }", "CHOICE { a NULL, ..., b NULL }", true},
		{"CHOICE { a NULL }", "CHOICE { a NULL, b NULL }", false},
		{"CHOICE { a NULL, ... }", "CHOICE { a BOOLEAN, ... }", false},
		{"CHOICE { a NULL, ..., b NULL }", "CHOICE { a NULL, ..., [[ b NULL ]] }", false},
		{"ENUMERATED { a, b }", "ENUMERATED { a, b }", true},
		{"ENUMERATED { a, b }", "ENUMERATED { a, b, c }", false},
		{"ENUMERATED { a, b }", "ENUMERATED { b (1), a (0) }", false},
		{"ENUMERATED { a, b }", "ENUMERATED { a (0), b (1) }", true},
		{"ENUMERATED { a, b }", "ENUMERATED { a, b (2) }", false},
		{"ENUMERATED { a, b }", "ENUMERATED { a, b, ... }", false},
		{"ENUMERATED { a, ... }", "ENUMERATED { a, ..., b, c }", true},
		{"ENUMERATED { a, ... }", "ENUMERATED { a, b, ... }", false},
		{"ENUMERATED { a, ..., b }", "ENUMERATED { a, ..., c }", false},
		{"ENUMERATED { a, ..., b }", "ENUMERATED { a, ..., b (5) }", false},
		{"ENUMERATED { a, ..., b }", "ENUMERATED { a, ... }", false},
		{"INTEGER (0..5)", "INTEGER (0..5)", true},
		{"INTEGER (0..5)", "INTEGER (0..6)", false},
		{"INTEGER (0..5)", "INTEGER (0..5, ...)", false},
		{"INTEGER (MIN..MAX)", "INTEGER", false},
		{"OCTET STRING (SIZE (1))", "OCTET STRING (SIZE (2))", false},
		{"NULL", "BOOLEAN", false},
		{"NULL", "[1] NULL", false},
		{"[1] NULL", "[2] NULL", false},
		{"[1] EXPLICIT NULL", "[1] NULL", false},
		{"SEQUENCE OF SEQUENCE { ... }", "SEQUENCE OF SEQUENCE { ..., a NULL }", true},
		{"SEQUENCE OF NULL", "SEQUENCE OF BOOLEAN", false},
		{"SEQUENCE OF NULL", "SEQUENCE (SIZE (1)) OF NULL", false},
	} {
		a, b := made(t, "AUTOMATIC", "A ::= "+x.a), made(t, "AUTOMATIC", "A ::= "+x.b)
		if extend.Type(a, 0, b, 0) != x.want {
			t.Errorf("P21.1: %s, then %s: not %v", x.a, x.b, x.want)
		}
		if !extend.Type(a, 0, a, 0) || !extend.Type(b, 0, b, 0) {
			t.Errorf("consequence: %s or %s does not extend itself", x.a, x.b)
		}
	}
}

func TestNoType(t *testing.T) {
	a := made(t, "EXPLICIT", "A ::= NULL")
	for _, i := range []int{-1, 1, 1 << 40} {
		if extend.Type(a, i, a, 0) || extend.Type(a, 0, a, i) || extend.Type(a, i, a, i) {
			t.Errorf("P21.1: the type %d", i)
		}
	}
}

func TestMay(t *testing.T) {
	for _, x := range []struct {
		a, b string
		at   int
		want api.Errno
	}{
		{"", "", 0, api.OK},
		{"", "A ::= NULL", 0, api.OK},
		{"A ::= NULL", "", 0, api.ErrExt},
		{"A ::= NULL B ::= BOOLEAN", "C ::= NULL B ::= BOOLEAN A ::= NULL", 0, api.OK},
		{"A ::= NULL B ::= BOOLEAN", "B ::= BOOLEAN", 0, api.ErrExt},
		{"A ::= NULL B ::= BOOLEAN", "A ::= NULL B ::= NULL", 1, api.ErrExt},
		{"A ::= NULL B ::= BOOLEAN C ::= A", "A ::= NULL B ::= BOOLEAN", 2, api.ErrExt},
		{"A ::= SET { a B } B ::= BOOLEAN", "A ::= SET { a BOOLEAN } B ::= BOOLEAN", 0, api.OK},
		{"A ::= SET { a B } B ::= SET { ... }", "A ::= SET { a B } B ::= SET { ..., x NULL }", 0, api.OK},
		{"Z ::= NULL A ::= SET { a B } B ::= SET { }", "A ::= SET { a B } Z ::= NULL B ::= SET { x NULL }", 1, api.ErrExt},
	} {
		if at, e := extend.May(made(t, "EXPLICIT", x.a), made(t, "EXPLICIT", x.b)); at != x.at || e != x.want {
			t.Errorf("P21.1: %s, then %s: error %d at %d; want %d at %d", x.a, x.b, e, at, x.want, x.at)
		}
	}
	a, b := made(t, "EXPLICIT", "A ::= NULL B ::= NULL"), made(t, "EXPLICIT", "A ::= NULL B ::= BOOLEAN")
	b.Name = "N"
	if at, e := extend.May(a, b); at != 0 || e != api.ErrExt {
		t.Errorf("P21.1: another name: error %d at %d", e, at)
	}
	if at, e := extend.May(made(t, "EXPLICIT", "A ::= [1] NULL"), made(t, "IMPLICIT", "A ::= [1] NULL")); at != 0 || e != api.ErrExt {
		t.Errorf("P21.1: another tagging: error %d at %d", e, at)
	}
	if at, e := extend.May(made(t, "EXPLICIT", "A ::= [1] NULL"), made(t, "IMPLICIT", "A ::= [1] EXPLICIT NULL")); at != 0 || e != api.OK {
		t.Errorf("P21.1: another tagging with the same tags: error %d at %d", e, at)
	}
}

func TestExtensionsOfExtensions(t *testing.T) {
	texts := []string{
		"A ::= SEQUENCE { a E, ... } E ::= ENUMERATED { r, ... }",
		"A ::= SEQUENCE { a E, ..., b NULL } E ::= ENUMERATED { r, ... }",
		"A ::= SEQUENCE { a E, ..., b NULL, [[ c NULL, d E ]] } E ::= ENUMERATED { r, ..., s }",
		"B ::= NULL A ::= SEQUENCE { a E, ..., b NULL, [[ c NULL, d E ]], e CHOICE { ... } } E ::= ENUMERATED { r, ..., s, t }",
	}
	for i, a := range texts {
		for k, b := range texts {
			_, e := extend.May(made(t, "AUTOMATIC", a), made(t, "AUTOMATIC", b))
			if (e == api.OK) != (i <= k) {
				t.Errorf("consequence: the versions %d and %d: error %d", i, k, e)
			}
		}
	}
}

func TestManyTypes(t *testing.T) {
	text := "A ::= SEQUENCE { f0 NULL"
	for i := 1; i < api.MaxNodes-1; i++ {
		text += ",f" + strconv.Itoa(i) + " NULL"
	}
	x := made(t, "AUTOMATIC", text+" }")
	if len(x.Types) != api.MaxNodes || !extend.Type(x, 0, x, 0) {
		t.Errorf("consequence: a type of %d types does not extend itself", len(x.Types))
	}
	deep := made(t, "AUTOMATIC", "A ::= "+strings.Repeat("SEQUENCE OF ", api.MaxDepth)+"NULL")
	if !extend.Type(deep, 0, deep, 0) {
		t.Error("consequence: a deep type does not extend itself")
	}
}

func TestStrangeTables(t *testing.T) {
	x := api.Table{Names: []string{"A", "A", "B"}, Roots: []int{0, 9}, Types: []api.Type{
		{Kind: api.ListOf, Of: 0},
		{Kind: api.Set, Root: -4, Fields: []api.Field{{Type: 1}, {Type: 1}}},
		{Kind: api.Enumerated, Root: 9, Items: []api.Item{{}}},
	}}
	loop := make([]api.Value, 1)
	loop[0].L = loop
	x.Types[1].Fields[0].Default = loop[0]
	for i := range x.Types {
		extend.Type(x, i, x, i)
	}
	extend.May(x, x)
}
