package syntax_test

import (
	"reflect"
	"strconv"
	"strings"
	"testing"

	"ogham/api"
	"ogham/syntax"
)

// module is the text of a module with these assignments.
func module(assignments string) string {
	return "M DEFINITIONS ::= BEGIN " + assignments + " END"
}

// parsed is the module that a text denotes.
func parsed(t *testing.T, text string) api.Module {
	t.Helper()
	m, at, e := syntax.Parse(text)
	if e != api.OK || at != 0 {
		t.Fatalf("P5.1: Parse(%q): error %d at %d", text, e, at)
	}
	return m
}

// refused reports a text that is not refused with this error, where the sign | marks its position.
func refused(t *testing.T, promise, marked string, want api.Errno) {
	t.Helper()
	at := strings.Index(marked, "|")
	text := marked[:at] + marked[at+1:]
	m, pos, e := syntax.Parse(text)
	if e != want || pos != at || !reflect.DeepEqual(m, api.Module{}) {
		t.Errorf("%s: Parse(%.300q): error %d at %d; want %d at %d", promise, text, e, pos, want, at)
	}
}

func TestExample(t *testing.T) {
	got := parsed(t, module("A ::= SEQUENCE { x INTEGER (0..7), ... }"))
	want := api.Module{Name: "M", Names: []string{"A"}, Types: []int{0}, Nodes: []api.Node{
		{Kind: api.Sequence, Fields: []api.Field{{Name: "x", Type: 1}}, Root: 1, More: true},
		{Kind: api.Integer, Con: api.Con{Has: true, HasLow: true, HasHigh: true, High: 7}},
	}}
	if !reflect.DeepEqual(got, want) {
		t.Errorf("P5.2: %+v", got)
	}
}

func TestHeadOfModule(t *testing.T) {
	for _, x := range []struct {
		text string
		want int
	}{
		{"Mod-1 DEFINITIONS ::= BEGIN END", api.Explicit},
		{"Mod-1 DEFINITIONS EXPLICIT TAGS ::= BEGIN END", api.Explicit},
		{"Mod-1 DEFINITIONS IMPLICIT TAGS::=BEGIN END", api.Implicit},
		{"-- c -- Mod-1 DEFINITIONS AUTOMATIC TAGS ::= BEGIN END -- c", api.Automatic},
	} {
		if got := parsed(t, x.text); !reflect.DeepEqual(got, api.Module{Name: "Mod-1", Tagging: x.want}) {
			t.Errorf("P5.2: Parse(%q): %+v", x.text, got)
		}
	}
}

// con is a constraint: a bound that is left out is an empty text.
func con(low, high string, more bool) api.Con {
	c := api.Con{Has: true, More: more}
	if low != "" {
		c.Low, _ = strconv.ParseInt(low, 10, 64)
		c.HasLow = true
	}
	if high != "" {
		c.High, _ = strconv.ParseInt(high, 10, 64)
		c.HasHigh = true
	}
	return c
}

func TestSimpleTypes(t *testing.T) {
	for _, x := range []struct {
		text string
		want api.Node
	}{
		{"BOOLEAN", api.Node{Kind: api.Boolean}},
		{"NULL", api.Node{Kind: api.Null}},
		{"INTEGER", api.Node{Kind: api.Integer}},
		{"INTEGER (5)", api.Node{Kind: api.Integer, Con: con("5", "5", false)}},
		{"INTEGER (-5..-3)", api.Node{Kind: api.Integer, Con: con("-5", "-3", false)}},
		{"INTEGER (7..3)", api.Node{Kind: api.Integer, Con: con("7", "3", false)}},
		{"INTEGER (MIN)", api.Node{Kind: api.Integer, Con: con("", "", false)}},
		{"INTEGER (MIN..MAX)", api.Node{Kind: api.Integer, Con: con("", "", false)}},
		{"INTEGER (MIN..3)", api.Node{Kind: api.Integer, Con: con("", "3", false)}},
		{"INTEGER (3..MAX, ...)", api.Node{Kind: api.Integer, Con: con("3", "", true)}},
		{"INTEGER (0, ...)", api.Node{Kind: api.Integer, Con: con("0", "0", true)}},
		{"INTEGER (MIN, ...)", api.Node{Kind: api.Integer, Con: con("", "", true)}},
		{"INTEGER (-9223372036854775808..9223372036854775807)", api.Node{Kind: api.Integer, Con: con("-9223372036854775808", "9223372036854775807", false)}},
		{"OCTET STRING", api.Node{Kind: api.Octets}},
		{"OCTET STRING (SIZE (4))", api.Node{Kind: api.Octets, Con: con("4", "4", false)}},
		{"OCTET STRING(SIZE(1..8,...))", api.Node{Kind: api.Octets, Con: con("1", "8", true)}},
		{"UTF8String", api.Node{Kind: api.Text}},
		{"UTF8String (SIZE (0..MAX))", api.Node{Kind: api.Text, Con: con("0", "", false)}},
		{"Other", api.Node{Kind: api.Ref, Name: "Other"}},
		{"[5] NULL", api.Node{Kind: api.Null, Mark: api.Mark{Has: true, Number: 5}}},
		{"[0] EXPLICIT NULL", api.Node{Kind: api.Null, Mark: api.Mark{Has: true, Mode: 1}}},
		{"[268435456] IMPLICIT Other", api.Node{Kind: api.Ref, Name: "Other", Mark: api.Mark{Has: true, Number: api.MaxTag, Mode: 2}}},
		{"SEQUENCE {}", api.Node{Kind: api.Sequence}},
		{"SET { ... }", api.Node{Kind: api.Set, More: true}},
		{"CHOICE {}", api.Node{Kind: api.Choice}},
		{"ENUMERATED { a }", api.Node{Kind: api.Enumerated, Items: []api.Item{{Name: "a"}}, Root: 1}},
		{"ENUMERATED { a, b (-3), ... }", api.Node{Kind: api.Enumerated, Items: []api.Item{{Name: "a"}, {Name: "b", Number: -3, Has: true}}, Root: 2, More: true}},
		{"ENUMERATED { a (0), ..., b, c (9) }", api.Node{Kind: api.Enumerated, Items: []api.Item{{Name: "a", Has: true}, {Name: "b"}, {Name: "c", Number: 9, Has: true}}, Root: 1, More: true}},
	} {
		got := parsed(t, module("A ::= "+x.text))
		want := api.Module{Name: "M", Names: []string{"A"}, Types: []int{0}, Nodes: []api.Node{x.want}}
		if !reflect.DeepEqual(got, want) {
			t.Errorf("P5.2: %s: %+v", x.text, got)
		}
	}
}

func TestNestedTypes(t *testing.T) {
	got := parsed(t, module("A ::= SEQUENCE OF SEQUENCE (SIZE (2)) OF CHOICE { a NULL, b SET { c BOOLEAN } , d B } B ::= NULL"))
	want := api.Module{Name: "M", Names: []string{"A", "B"}, Types: []int{0, 7}, Nodes: []api.Node{
		{Kind: api.ListOf, Of: 1},
		{Kind: api.ListOf, Of: 2, Con: con("2", "2", false)},
		{Kind: api.Choice, Fields: []api.Field{{Name: "a", Type: 3}, {Name: "b", Type: 4}, {Name: "d", Type: 6}}, Root: 3},
		{Kind: api.Null},
		{Kind: api.Set, Fields: []api.Field{{Name: "c", Type: 5}}, Root: 1},
		{Kind: api.Boolean},
		{Kind: api.Ref, Name: "B"},
		{Kind: api.Null},
	}}
	if !reflect.DeepEqual(got, want) {
		t.Errorf("P5.2: %+v", got)
	}
}

func TestAdditions(t *testing.T) {
	for _, x := range []struct {
		text   string
		root   int
		more   bool
		groups []int
	}{
		{"{ a NULL, b NULL }", 2, false, []int{0, 0}},
		{"{ a NULL, ..., b NULL }", 1, true, []int{0, 0}},
		{"{ ..., a NULL }", 0, true, []int{0}},
		{"{ ..., [[ a NULL ]] }", 0, true, []int{1}},
		{"{ a NULL, ..., [[ b NULL, c NULL ]], d NULL, [[ e NULL ]], [[ f NULL ]] }", 1, true, []int{0, 1, 1, 0, 2, 3}},
	} {
		for _, kind := range []string{"SEQUENCE ", "SET ", "CHOICE "} {
			n := parsed(t, module("A ::= "+kind+x.text)).Nodes[0]
			var groups []int
			for _, f := range n.Fields {
				groups = append(groups, f.Group)
			}
			if n.Root != x.root || n.More != x.more || !reflect.DeepEqual(groups, x.groups) {
				t.Errorf("P5.2: %s%s: Root %d, More %v, groups %v", kind, x.text, n.Root, n.More, groups)
			}
		}
	}
	m := parsed(t, module("A ::= SEQUENCE { ..., [[ a SEQUENCE { ..., [[ b NULL ]] } ]], [[ c NULL ]] }"))
	if m.Nodes[0].Fields[1].Group != 2 || m.Nodes[1].Fields[0].Group != 1 {
		t.Errorf("P5.2: the groups of a type within: %+v", m.Nodes)
	}
}

func TestDefaults(t *testing.T) {
	for _, x := range []struct {
		text string
		want api.Field
	}{
		{"NULL", api.Field{}},
		{"NULL OPTIONAL", api.Field{Optional: true}},
		{"BOOLEAN DEFAULT TRUE", api.Field{Has: true, Default: api.Value{Kind: api.Boolean, N: 1}}},
		{"BOOLEAN DEFAULT FALSE", api.Field{Has: true, Default: api.Value{Kind: api.Boolean}}},
		{"NULL DEFAULT NULL", api.Field{Has: true, Default: api.Value{Kind: api.Null}}},
		{"NULL DEFAULT -12", api.Field{Has: true, Default: api.Value{Kind: api.Integer, N: -12}}},
		{"NULL DEFAULT red", api.Field{Has: true, Default: api.Value{Kind: api.Enumerated, B: []byte("red")}}},
		{"NULL DEFAULT '09AF'H", api.Field{Has: true, Default: api.Value{Kind: api.Octets, B: []byte{0x09, 0xaf}}}},
		{`NULL DEFAULT "a""b"`, api.Field{Has: true, Default: api.Value{Kind: api.Text, B: []byte(`a"b`)}}},
	} {
		for _, kind := range []string{"SEQUENCE", "SET"} {
			want := x.want
			want.Name, want.Type = "f", 1
			got := parsed(t, module("A ::= "+kind+" { f "+x.text+" }")).Nodes[0].Fields[0]
			if !reflect.DeepEqual(got, want) {
				t.Errorf("P5.2: %s: %+v", x.text, got)
			}
		}
	}
}

func TestSyntaxErrors(t *testing.T) {
	for _, text := range []string{
		"|", "|m DEFINITIONS", "M |", "M |BEGIN", "M DEFINITIONS |TAGS", "M DEFINITIONS EXPLICIT |::=", "M DEFINITIONS ::= |END",
		"M DEFINITIONS ::= BEGIN|", "M DEFINITIONS ::= BEGIN END |x", "M DEFINITIONS ::= BEGIN END |END", "|END DEFINITIONS",
		"M DEFINITIONS AUTOMATIC TAGS |BEGIN", "M DEFINITIONS |\"::=\" BEGIN END",
	} {
		refused(t, "P5.1", text, api.ErrSyntax)
	}
	for _, text := range []string{
		"|a ::= NULL", "A |NULL", "A ::= |BEGIN", "A ::= |a", "A ::= |[[ 1 ] NULL", "A ::= [|a] NULL", "A ::= [1] |]", "A ::= [1] |[2] NULL", "A ::= [1 |NULL", "A ::= [1]EXPLICIT |IMPLICIT NULL",
		"A ::= OCTET |(SIZE (1))", "A ::= INTEGER (|)", "A ::= INTEGER (|MAX)", "A ::= INTEGER (1..|MIN)", "A ::= INTEGER (1|...)", "A ::= INTEGER (1..|)", "A ::= INTEGER (1 |2)",
		"A ::= INTEGER (1, |2)", "A ::= INTEGER (1, ...|, 2)", "A ::= INTEGER (|SIZE (1))", "A ::= OCTET STRING (|1)", "A ::= OCTET STRING (SIZE |1)", "A ::= OCTET STRING (SIZE (1) |BEGIN",
		"A ::= UTF8String (SIZE (1)|, ...)", "A ::= BOOLEAN |(1)", "A ::= ENUMERATED |a", "A ::= ENUMERATED { |}", "A ::= ENUMERATED { |... }", "A ::= ENUMERATED { a, |}", "A ::= ENUMERATED { |B }",
		"A ::= ENUMERATED { a (|b) }", "A ::= ENUMERATED { a, ..., |... }", "A ::= ENUMERATED { a, ..., |}", "A ::= ENUMERATED { a |... }", "A ::= ENUMERATED { a (1|}",
		"A ::= SEQUENCE |a", "A ::= SET |OF NULL", "A ::= CHOICE |OF NULL", "A ::= SEQUENCE OF |}", "A ::= SEQUENCE (SIZE (1)) |{}", "A ::= SEQUENCE { a |}", "A ::= SEQUENCE { |A NULL }",
		"A ::= SEQUENCE { a NULL |b NULL }", "A ::= SEQUENCE { a NULL, |}", "A ::= SEQUENCE { a NULL |... }", "A ::= SEQUENCE { ... |a NULL }", "A ::= SEQUENCE { ..., |}", "A ::= SEQUENCE { ..., |... }",
		"A ::= SEQUENCE { |[[ a NULL ]] }", "A ::= SEQUENCE { ..., [[ |]] }", "A ::= SEQUENCE { ..., [[ a NULL |} }", "A ::= SEQUENCE { ..., [[ a NULL, |]] }", "A ::= SEQUENCE { ..., [[ |[[ a NULL ]] ]] }",
		"A ::= SEQUENCE { ..., [[ |... ]] }", "A ::= SEQUENCE { a NULL OPTIONAL |DEFAULT NULL }", "A ::= SEQUENCE { a NULL DEFAULT NULL |OPTIONAL }", "A ::= SEQUENCE { a NULL DEFAULT |} }",
		"A ::= SEQUENCE { a NULL DEFAULT |{} }", "A ::= SEQUENCE { a NULL DEFAULT |MIN }", "A ::= SEQUENCE { a NULL DEFAULT |A }", "A ::= CHOICE { a NULL |OPTIONAL }", "A ::= CHOICE { a NULL |DEFAULT NULL }",
		"A ::= CHOICE { ..., a NULL |OPTIONAL }", "A ::= NULL |OPTIONAL", "A ::= SEQUENCE |\"{\" }",
	} {
		refused(t, "P5.1", module(text), api.ErrSyntax)
	}
}

func TestTokenErrors(t *testing.T) {
	// The tokens are made first: what is none of them comes before a sign that may not stand there.
	refused(t, "P5.1", "M ::= |;", api.ErrToken)
	refused(t, "P5.1", module("A ::= [-1] NULL B ::= |00"), api.ErrToken)
	refused(t, "P5.1", "|"+strings.Repeat(" ", api.MaxText+1), api.ErrLimit)
}

func TestMarkErrors(t *testing.T) {
	refused(t, "P5.1", module("A ::= [|-1] NULL"), api.ErrTag)
	refused(t, "P5.1", module("A ::= [ |268435457 NULL"), api.ErrTag)
	refused(t, "P5.1", module("A ::= SEQUENCE OF [|9223372036854775807] x"), api.ErrTag)
	refused(t, "P5.1", module("A ::= |x [-1] NULL"), api.ErrSyntax)
}

func TestDepth(t *testing.T) {
	deep := strings.Repeat("SEQUENCE OF ", api.MaxDepth)
	if m := parsed(t, module("A ::= "+deep+"NULL B ::= "+deep+"NULL")); len(m.Nodes) != 2*(api.MaxDepth+1) {
		t.Errorf("P5.1: %d nodes", len(m.Nodes))
	}
	refused(t, "P5.1", module("A ::= "+deep+"SEQUENCE OF |[1] NULL"), api.ErrLimit)
	refused(t, "P5.1", module("A ::= "+deep+"SEQUENCE { a |B"), api.ErrLimit)
	refused(t, "P5.1", module("A ::= "+deep+"SEQUENCE OF |a"), api.ErrSyntax)
	refused(t, "P5.1", module("A ::= "+deep+"SEQUENCE OF |[[ 1"), api.ErrSyntax)
	refused(t, "P5.1", module("A ::= "+strings.Repeat("CHOICE { a ", api.MaxDepth)+"SET { a |NULL"), api.ErrLimit)
}

func TestManyNodes(t *testing.T) {
	fields := func(n int) string {
		var l []string
		for i := range n {
			l = append(l, "f"+strconv.Itoa(i)+" NULL")
		}
		return strings.Join(l, ",")
	}
	if m := parsed(t, module("A ::= SET {"+fields(api.MaxNodes-1)+"}")); len(m.Nodes) != api.MaxNodes {
		t.Errorf("P5.1: %d nodes", len(m.Nodes))
	}
	full := "A ::= SET {" + fields(api.MaxNodes-1)
	refused(t, "P5.1", module(full+", x |[1] NULL }"), api.ErrLimit)
	refused(t, "P5.1", module(full+"} B ::= |NULL"), api.ErrLimit)
	refused(t, "P5.1", module(full+"} B ::= |END"), api.ErrSyntax)
}

func TestManyNames(t *testing.T) {
	var s string
	for i := range api.MaxTypes {
		s += "T" + strconv.Itoa(i) + " ::= NULL "
	}
	if m := parsed(t, module(s)); len(m.Names) != api.MaxTypes || m.Names[39] != "T39" || m.Types[39] != 39 {
		t.Errorf("P5.2: the names %v", m.Names)
	}
	refused(t, "P5.1", module(s+"|X ::= NULL"), api.ErrLimit)
	refused(t, "P5.1", module(s+"|X NULL"), api.ErrLimit)
	refused(t, "P5.1", module(s+"|x ::= NULL"), api.ErrSyntax)
}

func TestDefaultsAreApart(t *testing.T) {
	m := parsed(t, module("A ::= SEQUENCE { a OCTET STRING DEFAULT '01'H, b OCTET STRING DEFAULT '01'H }"))
	m.Nodes[0].Fields[0].Default.B[0] = 9
	if m.Nodes[0].Fields[1].Default.B[0] != 1 {
		t.Error("R3: two defaults share their bytes")
	}
}
