package print_test

import (
	"strconv"
	"strings"
	"testing"

	"ogham/api"
	"ogham/print"
	"ogham/syntax"
)

// one is a module with one name, whose type is the first of the nodes.
func one(nodes ...api.Node) api.Module {
	return api.Module{Name: "M", Names: []string{"A"}, Types: []int{0}, Nodes: nodes}
}

// typeOf is the text of the type of the module one.
func typeOf(nodes ...api.Node) string {
	s := print.Print(one(nodes...))
	s = strings.TrimPrefix(s, "M DEFINITIONS EXPLICIT TAGS ::= BEGIN\nA ::= ")
	return strings.TrimSuffix(s, "\nEND\n")
}

func TestExample(t *testing.T) {
	m, _, _ := syntax.Parse("M DEFINITIONS ::= BEGIN A ::= SEQUENCE{x INTEGER(0..7),...} END")
	want := "M DEFINITIONS EXPLICIT TAGS ::= BEGIN\nA ::= SEQUENCE { x INTEGER (0..7), ... }\nEND\n"
	if got := print.Print(m); got != want {
		t.Errorf("P6.1: %q", got)
	}
}

func TestHeads(t *testing.T) {
	for tagging, word := range []string{"EXPLICIT", "IMPLICIT", "AUTOMATIC"} {
		if got := print.Print(api.Module{Name: "N-1", Tagging: tagging}); got != "N-1 DEFINITIONS "+word+" TAGS ::= BEGIN\nEND\n" {
			t.Errorf("P6.1: tagging %d: %q", tagging, got)
		}
	}
	m := api.Module{Name: "M", Names: []string{"B", "A"}, Types: []int{1, 0}, Nodes: []api.Node{{Kind: api.Null}, {Kind: api.Boolean}}}
	if got := print.Print(m); got != "M DEFINITIONS EXPLICIT TAGS ::= BEGIN\nB ::= BOOLEAN\nA ::= NULL\nEND\n" {
		t.Errorf("P6.1: two names: %q", got)
	}
}

func TestTypes(t *testing.T) {
	five := api.Con{Has: true, HasLow: true, HasHigh: true, Low: 5, High: 5}
	for _, x := range []struct {
		want  string
		nodes []api.Node
	}{
		{"BOOLEAN", []api.Node{{Kind: api.Boolean, Con: five}}},
		{"NULL", []api.Node{{Kind: api.Null}}},
		{"INTEGER", []api.Node{{Kind: api.Integer}}},
		{"INTEGER", []api.Node{{Kind: api.Integer, Con: api.Con{HasLow: true, More: true}}}},
		{"INTEGER (5)", []api.Node{{Kind: api.Integer, Con: five}}},
		{"INTEGER (-5..5)", []api.Node{{Kind: api.Integer, Con: api.Con{Has: true, HasLow: true, HasHigh: true, Low: -5, High: 5}}}},
		{"INTEGER (-1234567890123456789..9223372036854775807)", []api.Node{{Kind: api.Integer, Con: api.Con{Has: true, HasLow: true, HasHigh: true, Low: -1234567890123456789, High: 9223372036854775807}}}},
		{"ENUMERATED { a (-123), b (456) }", []api.Node{{Kind: api.Enumerated, Items: []api.Item{{Name: "a", Number: -123, Has: true}, {Name: "b", Number: 456, Has: true}}, Root: 2}}},
		{"[268435456] NULL", []api.Node{{Kind: api.Null, Mark: api.Mark{Has: true, Number: api.MaxTag}}}},
		{"INTEGER (MIN..MAX)", []api.Node{{Kind: api.Integer, Con: api.Con{Has: true}}}},
		{"INTEGER (0..MAX, ...)", []api.Node{{Kind: api.Integer, Con: api.Con{Has: true, HasLow: true, More: true}}}},
		{"INTEGER (MIN..0)", []api.Node{{Kind: api.Integer, Con: api.Con{Has: true, HasHigh: true}}}},
		{"OCTET STRING", []api.Node{{Kind: api.Octets}}},
		{"OCTET STRING (SIZE (5))", []api.Node{{Kind: api.Octets, Con: five}}},
		{"UTF8String (SIZE (0..MAX, ...))", []api.Node{{Kind: api.Text, Con: api.Con{Has: true, HasLow: true, More: true}}}},
		{"ENUMERATED { a, b (7) }", []api.Node{{Kind: api.Enumerated, Items: []api.Item{{Name: "a", Number: 3}, {Name: "b", Number: 7, Has: true}}, Root: 2}}},
		{"ENUMERATED { a, ..., b (-1) }", []api.Node{{Kind: api.Enumerated, Items: []api.Item{{Name: "a"}, {Name: "b", Number: -1, Has: true}}, Root: 1, More: true}}},
		{"ENUMERATED { a, ... }", []api.Node{{Kind: api.Enumerated, Items: []api.Item{{Name: "a"}}, Root: 1, More: true}}},
		{"SEQUENCE {}", []api.Node{{Kind: api.Sequence}}},
		{"SET {}", []api.Node{{Kind: api.Set}}},
		{"CHOICE {}", []api.Node{{Kind: api.Choice}}},
		{"CHOICE { ... }", []api.Node{{Kind: api.Choice, More: true}}},
		{"SET { a NULL, b BOOLEAN }", []api.Node{{Kind: api.Set, Fields: []api.Field{{Name: "a", Type: 1}, {Name: "b", Type: 2}}, Root: 2}, {Kind: api.Null}, {Kind: api.Boolean}}},
		{"SEQUENCE { a NULL }", []api.Node{{Kind: api.Sequence, Fields: []api.Field{{Name: "a", Type: 1}}, Root: 2, More: true}, {Kind: api.Null}}},
		{"SEQUENCE { a NULL }", []api.Node{{Kind: api.Sequence, Fields: []api.Field{{Name: "a", Type: 1}}, Root: -1, More: true}, {Kind: api.Null}}},
		{"SEQUENCE OF NULL", []api.Node{{Kind: api.ListOf, Of: 1}, {Kind: api.Null}}},
		{"SEQUENCE (SIZE (5)) OF B", []api.Node{{Kind: api.ListOf, Of: 1, Con: five}, {Kind: api.Ref, Name: "B"}}},
		{"[5] NULL", []api.Node{{Kind: api.Null, Mark: api.Mark{Has: true, Number: 5}}}},
		{"NULL", []api.Node{{Kind: api.Null, Mark: api.Mark{Number: 5, Mode: 1}}}},
		{"[0] EXPLICIT B", []api.Node{{Kind: api.Ref, Name: "B", Mark: api.Mark{Has: true, Mode: 1}}}},
		{"[1] IMPLICIT SEQUENCE OF [2] NULL", []api.Node{{Kind: api.ListOf, Of: 1, Mark: api.Mark{Has: true, Number: 1, Mode: 2}}, {Kind: api.Null, Mark: api.Mark{Has: true, Number: 2, Mode: 9}}}},
	} {
		if got := typeOf(x.nodes...); got != x.want {
			t.Errorf("P6.1: %q; want %q", got, x.want)
		}
	}
}

func TestFields(t *testing.T) {
	nine := api.Value{Kind: api.Integer, N: 9}
	n := api.Node{Kind: api.Sequence, Root: 1, More: true, Fields: []api.Field{
		{Name: "a", Type: 1, Optional: true},
		{Name: "b", Type: 1, Group: 1, Has: true, Default: nine},
		{Name: "c", Type: 1, Group: 1},
		{Name: "d", Type: 1, Group: 2},
		{Name: "e", Type: 1, Default: nine},
		{Name: "f", Type: 1, Group: 3},
	}}
	want := "SEQUENCE { a NULL OPTIONAL, ..., [[ b NULL DEFAULT 9, c NULL ]], [[ d NULL ]], e NULL, [[ f NULL ]] }"
	if got := typeOf(n, api.Node{Kind: api.Null}); got != want {
		t.Errorf("P6.1: %s", got)
	}
	n.Fields = n.Fields[:1]
	if got := typeOf(n, api.Node{Kind: api.Null}); got != "SEQUENCE { a NULL OPTIONAL, ... }" {
		t.Errorf("P6.1: %s", got)
	}
	n.Root = 0
	if got := typeOf(n, api.Node{Kind: api.Null}); got != "SEQUENCE { ..., a NULL OPTIONAL }" {
		t.Errorf("P6.1: %s", got)
	}
}

func TestValue(t *testing.T) {
	for _, x := range []struct {
		v    api.Value
		want string
	}{
		{api.Value{Kind: api.Boolean}, "FALSE"},
		{api.Value{Kind: api.Boolean, N: 1}, "TRUE"},
		{api.Value{Kind: api.Boolean, N: -2}, "TRUE"},
		{api.Value{Kind: api.Null, N: 3}, "NULL"},
		{api.Value{Kind: api.Integer, N: -9223372036854775808}, "-9223372036854775808"},
		{api.Value{Kind: api.Enumerated, N: 3, B: []byte("red")}, "red"},
		{api.Value{Kind: api.Octets}, "''H"},
		{api.Value{Kind: api.Octets, B: []byte{0x09, 0xaf, 0xff}}, "'09AFFF'H"},
		{api.Value{Kind: api.Text}, `""`},
		{api.Value{Kind: api.Text, B: []byte(`a"b""`)}, `"a""b"""""`},
		{api.Value{Kind: api.Sequence}, ""},
		{api.Value{Kind: api.Unknown, N: 1}, ""},
		{api.Value{}, ""},
		{api.Value{Kind: -1}, ""},
	} {
		if got := print.Value(x.v); got != x.want {
			t.Errorf("P6.1: Value(%+v): %q; want %q", x.v, got, x.want)
		}
	}
}

func TestNotValid(t *testing.T) {
	null := api.Node{Kind: api.Null}
	for i, m := range []api.Module{
		{Name: "M", Tagging: 3},
		{Name: "M", Tagging: -1},
		{Name: "M", Names: []string{"A"}},
		{Name: "M", Types: []int{0}, Nodes: []api.Node{null}},
		{Name: "M", Names: []string{"A"}, Types: []int{-1}, Nodes: []api.Node{null}},
		{Name: "M", Names: []string{"A"}, Types: []int{1}, Nodes: []api.Node{null}},
		one(api.Node{}), one(api.Node{Kind: api.Unknown}), one(api.Node{Kind: -1}),
		one(api.Node{Kind: api.ListOf, Of: 1}), one(api.Node{Kind: api.ListOf, Of: -1}),
		one(api.Node{Kind: api.Set, Fields: []api.Field{{Name: "a", Type: 1}}}),
		one(api.Node{Kind: api.Sequence, Fields: []api.Field{{Name: "a", Type: 1}}}),
		one(api.Node{Kind: api.Choice, Fields: []api.Field{{Name: "a", Type: 1}, {Name: "b", Type: -1}}}, null),
		one(api.Node{Kind: api.ListOf, Of: 0}),
		one(api.Node{Kind: api.Sequence, Fields: []api.Field{{Name: "a"}, {Name: "b"}}, Root: 2}),
	} {
		if got := print.Print(m); got != "" || print.Right(m) {
			t.Errorf("P6.1: module %d: %.100q", i, got)
		}
	}
}

func TestLongText(t *testing.T) {
	frame := len("M DEFINITIONS EXPLICIT TAGS ::= BEGIN\nA ::= \nEND\n")
	name := strings.Repeat("x", 4*api.MaxText-frame)
	if got := print.Print(one(api.Node{Kind: api.Ref, Name: name})); len(got) != 4*api.MaxText {
		t.Errorf("P6.1: a text of the limit has %d bytes", len(got))
	}
	if got := print.Print(one(api.Node{Kind: api.Ref, Name: name + "x"})); got != "" {
		t.Errorf("P6.1: a text beyond the limit has %d bytes", len(got))
	}
	if got := print.Print(api.Module{Name: strings.Repeat("x", 4*api.MaxText)}); got != "" {
		t.Errorf("P6.1: a long name: %d bytes", len(got))
	}
}

func parsed(t *testing.T, text string) api.Module {
	t.Helper()
	m, at, e := syntax.Parse(text)
	if e != api.OK {
		t.Fatalf("Parse: error %d at %d", e, at)
	}
	return m
}

const everything = `M DEFINITIONS IMPLICIT TAGS ::= BEGIN
	A ::= [3] EXPLICIT SEQUENCE { a INTEGER (MIN) DEFAULT -4, b B OPTIONAL, c OCTET STRING (SIZE (1..2)) DEFAULT '0A'H,
		..., [[ d UTF8String (SIZE (0..MAX, ...)) DEFAULT "x""y", e NULL DEFAULT NULL ]], [[ f BOOLEAN DEFAULT TRUE ]], g E DEFAULT red }
	B ::= SET { ..., x [7] IMPLICIT SEQUENCE (SIZE (3)) OF CHOICE { y NULL, z SEQUENCE {} } }
	E ::= ENUMERATED { red, green (5), ..., blue }
END`

func TestRight(t *testing.T) {
	m := parsed(t, everything)
	if !print.Right(m) {
		t.Errorf("P6.2: not right: %s", print.Print(m))
	}
	text := print.Print(m)
	if again := print.Print(parsed(t, text)); again != text {
		t.Errorf("consequence: %s", again)
	}
}

func TestNotRight(t *testing.T) {
	for i, turn := range []func(m *api.Module){
		func(m *api.Module) { m.Name = "m" },
		func(m *api.Module) { m.Names[0] = "END" },
		func(m *api.Module) { m.Names[0] = "A B" },
		func(m *api.Module) { m.Nodes = append(m.Nodes, api.Node{Kind: api.Null}) },
		func(m *api.Module) { m.Types[0], m.Types[1] = m.Types[1], m.Types[0] },
		func(m *api.Module) { m.Nodes[0].Mark = api.Mark{Number: 3, Mode: 1} },
		func(m *api.Module) { m.Nodes[0].Mark.Mode = 4 },
		func(m *api.Module) { m.Nodes[0].Mark.Number = api.MaxTag + 1 },
		func(m *api.Module) { m.Nodes[0].Con.Has = true },
		func(m *api.Module) { m.Nodes[0].Of = 1 },
		func(m *api.Module) { m.Nodes[0].Root = 9 },
		func(m *api.Module) { m.Nodes[0].Name = "A" },
		func(m *api.Module) { m.Nodes[0].Items = []api.Item{{}} },
		func(m *api.Module) { m.Nodes[0].Fields[0].Default.N = 5; m.Nodes[0].Fields[0].Default.B = []byte{1} },
		func(m *api.Module) { m.Nodes[0].Fields[0].Default.L = []api.Value{{}} },
		func(m *api.Module) { m.Nodes[0].Fields[1].Default.Kind = api.Null },
		func(m *api.Module) { m.Nodes[0].Fields[3].Group = 2 },
		func(m *api.Module) { m.Nodes[0].Fields[0].Name = "" },
		func(m *api.Module) { m.Nodes[1].Con.High = 3 },
		func(m *api.Module) { m.Nodes[1].Kind = api.ListOf },
		func(m *api.Module) { m.Nodes[len(m.Nodes)-1].Items[0].Number = 1 },
		func(m *api.Module) { m.Nodes[len(m.Nodes)-1].More = false },
	} {
		m := parsed(t, everything)
		turn(&m)
		if print.Right(m) {
			t.Errorf("P6.2: right after the turn %d: %s", i, print.Print(m))
		}
	}
	m := api.Module{Name: "M", Names: []string{"A"}, Types: []int{0}, Nodes: []api.Node{{Kind: api.Enumerated}}}
	for i := range 1400 {
		m.Nodes[0].Items = append(m.Nodes[0].Items, api.Item{Name: "i" + strconv.Itoa(i)})
	}
	m.Nodes[0].Root = 1400
	if n := len(print.Print(m)); n <= api.MaxText || print.Right(m) {
		t.Errorf("P6.2: a text of %d bytes is right", n)
	}
}
