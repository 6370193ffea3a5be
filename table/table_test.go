package table_test

import (
	"math"
	"reflect"
	"slices"
	"strconv"
	"strings"
	"testing"

	"ogham/api"
	"ogham/syntax"
	"ogham/table"
)

func parsed(t *testing.T, tagging, assignments string) api.Module {
	t.Helper()
	m, at, e := syntax.Parse("M DEFINITIONS " + tagging + " TAGS ::= BEGIN " + assignments + " END")
	if e != api.OK {
		t.Fatalf("Parse of %.300s: error %d at %d", assignments, e, at)
	}
	return m
}

func made(t *testing.T, tagging, assignments string) api.Table {
	t.Helper()
	x, at, e := table.Make(parsed(t, tagging, assignments))
	if e != api.OK || at != 0 {
		t.Fatalf("P10.1: Make of %.300s: error %d at %d", assignments, e, at)
	}
	return x
}

// refused reports a module that is not refused with this error of the name with this index.
func refused(t *testing.T, tagging, assignments string, at int, want api.Errno) {
	t.Helper()
	x, i, e := table.Make(parsed(t, tagging, assignments))
	if e != want || i != at || !reflect.DeepEqual(x, api.Table{}) {
		t.Errorf("P10.1: Make of %.300s: error %d of the name %d; want %d of %d", assignments, e, i, want, at)
	}
}

func u(n int) api.Tag { return api.Tag{Number: n} }
func c(n int) api.Tag { return api.Tag{Class: 2, Number: n} }

func TestExample(t *testing.T) {
	got := made(t, "EXPLICIT", "A ::= SEQUENCE { x INTEGER (0..7), ... }")
	want := api.Table{Name: "M", Names: []string{"A"}, Roots: []int{0}, Types: []api.Type{
		{Kind: api.Sequence, Tags: []api.Tag{u(16)}, Fields: []api.Field{{Name: "x", Type: 1}}, Root: 1, More: true},
		{Kind: api.Integer, Tags: []api.Tag{u(2)}, Con: api.Con{Has: true, HasLow: true, HasHigh: true, High: 7}},
	}}
	if !reflect.DeepEqual(got, want) {
		t.Errorf("P10.1: %+v", got)
	}
	refused(t, "EXPLICIT", "A ::= SEQUENCE { x NULL OPTIONAL, y NULL }", 0, api.ErrTag)
}

func TestReferencesAreMadeAnew(t *testing.T) {
	got := made(t, "EXPLICIT", "A ::= SEQUENCE { a B, b [1] B, c SEQUENCE OF C } B ::= CHOICE { x C } C ::= [5] D D ::= NULL")
	want := []api.Type{
		{Kind: api.Sequence, Tags: []api.Tag{u(16)}, Fields: []api.Field{{Name: "a", Type: 1}, {Name: "b", Type: 3}, {Name: "c", Type: 5}}, Root: 3},
		{Kind: api.Choice, Fields: []api.Field{{Name: "x", Type: 2}}, Root: 1},
		{Kind: api.Null, Tags: []api.Tag{c(5), u(5)}},
		{Kind: api.Choice, Tags: []api.Tag{c(1)}, Fields: []api.Field{{Name: "x", Type: 4}}, Root: 1},
		{Kind: api.Null, Tags: []api.Tag{c(5), u(5)}},
		{Kind: api.ListOf, Tags: []api.Tag{u(16)}, Of: 6},
		{Kind: api.Null, Tags: []api.Tag{c(5), u(5)}},
		{Kind: api.Choice, Fields: []api.Field{{Name: "x", Type: 8}}, Root: 1},
		{Kind: api.Null, Tags: []api.Tag{c(5), u(5)}},
		{Kind: api.Null, Tags: []api.Tag{c(5), u(5)}},
		{Kind: api.Null, Tags: []api.Tag{u(5)}},
	}
	if !reflect.DeepEqual(got.Types, want) || !slices.Equal(got.Roots, []int{0, 7, 9, 10}) {
		t.Errorf("P10.1: roots %v, types %+v", got.Roots, got.Types)
	}
	for i, x := range got.Types {
		for _, f := range x.Fields {
			if f.Type <= i {
				t.Errorf("consequence: the type %d has a part %d", i, f.Type)
			}
		}
	}
}

func TestUniversalTags(t *testing.T) {
	got := made(t, "EXPLICIT", `A ::= BOOLEAN B ::= INTEGER C ::= ENUMERATED { a } D ::= NULL E ::= OCTET STRING (SIZE (1..2)) F ::= UTF8String (SIZE (0..MAX, ...))
		G ::= SEQUENCE {} H ::= SET {} I ::= CHOICE { ... } J ::= SEQUENCE (SIZE (3)) OF NULL`)
	want := [][]api.Tag{{u(1)}, {u(2)}, {u(10)}, {u(5)}, {u(4)}, {u(12)}, {u(16)}, {u(17)}, nil, {u(16)}}
	for i, w := range want {
		if x := got.Types[got.Roots[i]]; !slices.Equal(x.Tags, w) || x.Kind != i+1 {
			t.Errorf("P10.1: %s: %+v", got.Names[i], x)
		}
	}
	if x := got.Types[got.Roots[4]].Con; x != (api.Con{Has: true, HasLow: true, HasHigh: true, Low: 1, High: 2}) {
		t.Errorf("P10.1: the size of octets: %+v", x)
	}
	if x := got.Types[got.Roots[5]].Con; x != (api.Con{Has: true, HasLow: true, More: true}) {
		t.Errorf("P10.1: the size of a text: %+v", x)
	}
	if x := got.Types[got.Roots[9]]; x.Con != (api.Con{Has: true, HasLow: true, HasHigh: true, Low: 3, High: 3}) || x.Of != got.Roots[9]+1 {
		t.Errorf("P10.1: the size of a list: %+v", x)
	}
}

func TestMarks(t *testing.T) {
	for _, x := range []struct {
		tagging, text string
		want          []api.Tag
	}{
		{"EXPLICIT", "[3] NULL", []api.Tag{c(3), u(5)}},
		{"EXPLICIT", "[3] IMPLICIT NULL", []api.Tag{c(3)}},
		{"IMPLICIT", "[3] NULL", []api.Tag{c(3)}},
		{"IMPLICIT", "[3] EXPLICIT NULL", []api.Tag{c(3), u(5)}},
		{"AUTOMATIC", "[3] NULL", []api.Tag{c(3)}},
		{"AUTOMATIC", "[3] EXPLICIT NULL", []api.Tag{c(3), u(5)}},
		{"EXPLICIT", "[3] CHOICE { a NULL }", []api.Tag{c(3)}},
		{"IMPLICIT", "[3] CHOICE { a NULL }", []api.Tag{c(3)}},
		{"AUTOMATIC", "[3] CHOICE { a NULL }", []api.Tag{c(3)}},
		{"IMPLICIT", "[3] C", []api.Tag{c(3)}},
		{"EXPLICIT", "[3] B", []api.Tag{c(3), c(8), u(2)}},
		{"IMPLICIT", "[3] B", []api.Tag{c(3)}},
		{"IMPLICIT", "[3] EXPLICIT B", []api.Tag{c(3), c(8)}},
		{"EXPLICIT", "[3] IMPLICIT B", []api.Tag{c(3), u(2)}},
		{"IMPLICIT", "[3] IMPLICIT D", []api.Tag{c(3)}},
		{"EXPLICIT", "C", nil},
	} {
		got := made(t, x.tagging, "A ::= "+x.text+" B ::= [8] INTEGER C ::= CHOICE { a NULL } D ::= [7] C")
		if !slices.Equal(got.Types[0].Tags, x.want) {
			t.Errorf("P10.1: %s %s: %v; want %v", x.tagging, x.text, got.Types[0].Tags, x.want)
		}
	}
	refused(t, "EXPLICIT", "A ::= NULL B ::= [3] IMPLICIT CHOICE { a NULL }", 1, api.ErrTag)
	refused(t, "AUTOMATIC", "A ::= [3] IMPLICIT C C ::= CHOICE { a NULL }", 0, api.ErrTag)
	// The parts of a type come ahead of its mark.
	refused(t, "EXPLICIT", "A ::= [3] IMPLICIT CHOICE { a NULL, a NULL }", 0, api.ErrTwice)
}

func TestAutomatic(t *testing.T) {
	for _, x := range []struct {
		text string
		want [][]api.Tag
	}{
		{"SEQUENCE { a NULL, b C, c SEQUENCE { d BOOLEAN }, e B }", [][]api.Tag{{c(0)}, {c(1)}, {c(2)}, {c(3)}}},
		{"CHOICE { a NULL, ..., b INTEGER, [[ d C, e B ]] }", [][]api.Tag{{c(0)}, {c(1)}, {c(2)}, {c(3)}}},
		{"SET { a X }", [][]api.Tag{{c(0), u(5)}}},
		{"SEQUENCE { a NULL, b [1] EXPLICIT NULL, c BOOLEAN }", [][]api.Tag{{u(5)}, {c(1), u(5)}, {u(1)}}},
		{"SEQUENCE { a NULL, ..., b [7] NULL }", [][]api.Tag{{u(5)}, {c(7)}}},
	} {
		got := made(t, "AUTOMATIC", "A ::= "+x.text+" B ::= [8] INTEGER C ::= CHOICE { a NULL } X ::= [2] EXPLICIT NULL")
		var tags [][]api.Tag
		for _, f := range got.Types[0].Fields {
			tags = append(tags, got.Types[f.Type].Tags)
		}
		if !reflect.DeepEqual(tags, x.want) {
			t.Errorf("P10.1: %s: %v; want %v", x.text, tags, x.want)
		}
	}
	got := made(t, "AUTOMATIC", "A ::= SEQUENCE { a SEQUENCE OF SEQUENCE { b NULL } }")
	if x := got.Types[2]; !slices.Equal(x.Tags, []api.Tag{u(16)}) || !slices.Equal(got.Types[3].Tags, []api.Tag{c(0)}) {
		t.Errorf("P10.1: an element of a list: %+v", got.Types)
	}
}

func TestItems(t *testing.T) {
	for _, x := range []struct {
		text string
		want []int64
	}{
		{"a, b, c", []int64{0, 1, 2}},
		{"a (5), b, c (0), d", []int64{5, 1, 0, 2}},
		{"a, b (0), c (1), d", []int64{2, 0, 1, 3}},
		{"a (-5), b", []int64{-5, 0}},
		{"a, b (7), ..., c, d (20), e", []int64{0, 7, 8, 20, 21}},
		{"a (-5), ..., b, c", []int64{-5, -4, -3}},
		{"a (9), ..., b (3), c (4), d", []int64{9, 3, 4, 10}},
		{"a (9223372036854775806), ..., b", []int64{math.MaxInt64 - 1, math.MaxInt64}},
		{"a (9223372036854775807), b, ..., c (5)", []int64{math.MaxInt64, 0, 5}},
	} {
		got := made(t, "EXPLICIT", "A ::= ENUMERATED { "+x.text+" }").Types[0]
		var numbers []int64
		for i, item := range got.Items {
			numbers = append(numbers, item.Number)
			if item.Has || item.Name != string(rune('a'+i)) {
				t.Errorf("P10.1: %s: the item %+v", x.text, item)
			}
		}
		root := len(strings.Split(strings.Split(x.text, ", ...")[0], ","))
		if !slices.Equal(numbers, x.want) || got.Root != root || got.More != strings.Contains(x.text, "...") {
			t.Errorf("P10.1: %s: %v, Root %d, More %v", x.text, numbers, got.Root, got.More)
		}
	}
	for _, x := range []struct {
		text string
		want api.Errno
	}{
		{"a (9223372036854775807), ..., b", api.ErrBound},
		{"a, a, ..., c (9223372036854775807), b", api.ErrBound},
		{"a, a", api.ErrTwice},
		{"a, ..., a", api.ErrTwice},
		{"a (3), b (3)", api.ErrTwice},
		{"a, ..., b (0)", api.ErrTwice},
		{"a (9), ..., b (5), c (4)", api.ErrTwice},
		{"a (9), ..., b (5), c (5)", api.ErrTwice},
		{"a, b, ..., c (10), d (5)", api.ErrTwice},
	} {
		refused(t, "EXPLICIT", "A ::= ENUMERATED { "+x.text+" }", 0, x.want)
	}
}

func TestDefaults(t *testing.T) {
	for _, x := range []struct {
		text string
		want api.Value
	}{
		{"BOOLEAN DEFAULT TRUE", api.Value{Kind: api.Boolean, N: 1}},
		{"INTEGER (0..7) DEFAULT 7", api.Value{Kind: api.Integer, N: 7}},
		{"NULL DEFAULT NULL", api.Value{Kind: api.Null}},
		{"OCTET STRING (SIZE (1)) DEFAULT 'AA'H", api.Value{Kind: api.Octets, B: []byte{0xaa}}},
		{`UTF8String (SIZE (2)) DEFAULT "é"`, api.Value{Kind: api.Text, B: []byte("é")}},
		{"E DEFAULT b", api.Value{Kind: api.Enumerated, N: 4}},
		{"[9] E DEFAULT a", api.Value{Kind: api.Enumerated}},
	} {
		got := made(t, "EXPLICIT", "A ::= SEQUENCE { f "+x.text+" } E ::= ENUMERATED { a, b (4), ..., c }").Types[0].Fields[0]
		if !got.Has || got.Optional || !reflect.DeepEqual(got.Default, x.want) {
			t.Errorf("P10.1: %s: %+v", x.text, got)
		}
	}
	for _, text := range []string{
		"BOOLEAN DEFAULT 1", "INTEGER DEFAULT TRUE", "INTEGER (0..7) DEFAULT 8", "INTEGER (0..7, ...) DEFAULT 8", "INTEGER DEFAULT a", "NULL DEFAULT 0",
		"OCTET STRING (SIZE (1)) DEFAULT ''H", "OCTET STRING (SIZE (1, ...)) DEFAULT 'AAAA'H", `OCTET STRING DEFAULT ""`, `UTF8String (SIZE (1)) DEFAULT "é"`, "UTF8String DEFAULT ''H",
		"E DEFAULT c", "E DEFAULT d", "E DEFAULT 0", "SEQUENCE {} DEFAULT NULL", "CHOICE { a NULL } DEFAULT NULL", "SEQUENCE OF NULL DEFAULT NULL", "SET {} DEFAULT a",
	} {
		refused(t, "EXPLICIT", "Z ::= NULL A ::= SEQUENCE { f "+text+" } E ::= ENUMERATED { a, b (4), ..., c }", 1, api.ErrValue)
	}
}

func TestBoundErrors(t *testing.T) {
	refused(t, "EXPLICIT", "A ::= NULL B ::= INTEGER (5..3)", 1, api.ErrBound)
	refused(t, "EXPLICIT", "A ::= OCTET STRING (SIZE (MIN..5))", 0, api.ErrBound)
	refused(t, "EXPLICIT", "A ::= UTF8String (SIZE (-1..5))", 0, api.ErrBound)
	refused(t, "EXPLICIT", "A ::= SEQUENCE (SIZE (0..70001)) OF NULL", 0, api.ErrBound)
	refused(t, "EXPLICIT", "A ::= SEQUENCE (SIZE (2..1)) OF INTEGER (5..3)", 0, api.ErrBound)
	refused(t, "EXPLICIT", "A ::= CHOICE {}", 0, api.ErrBound)
	made(t, "EXPLICIT", "A ::= CHOICE { ... } B ::= INTEGER (-5..-5) C ::= OCTET STRING (SIZE (0..70000))")
}

func TestFirstError(t *testing.T) {
	for _, x := range []struct {
		text string
		at   int
		want api.Errno
	}{
		{"A ::= INTEGER (5..3) B ::= B", 1, api.ErrCycle},
		{"A ::= INTEGER (5..3) B ::= X", 1, api.ErrNone},
		{"A ::= INTEGER (5..3) A ::= X", 1, api.ErrTwice},
		{"A ::= SEQUENCE { a NULL, a INTEGER (5..3) }", 0, api.ErrTwice},
		{"A ::= SEQUENCE { a INTEGER (5..3) DEFAULT 4, a NULL }", 0, api.ErrBound},
		{"A ::= SEQUENCE { a INTEGER DEFAULT NULL, a NULL }", 0, api.ErrValue},
		{"A ::= SEQUENCE { a NULL OPTIONAL, b NULL, b NULL }", 0, api.ErrTwice},
		{"A ::= SEQUENCE { a B } B ::= CHOICE {}", 0, api.ErrBound},
		{"A ::= SEQUENCE { b BOOLEAN, a SET { a NULL, b NULL }, c INTEGER (5..3) }", 0, api.ErrTag},
	} {
		refused(t, "EXPLICIT", x.text, x.at, x.want)
	}
}

func TestDistinguishable(t *testing.T) {
	const names = " W ::= CHOICE { a NULL, ... } C ::= CHOICE { a BOOLEAN, b INTEGER } V ::= CHOICE { w W } T ::= [0] W"
	for _, text := range []string{
		"SEQUENCE { a NULL, b NULL, c NULL }",
		"SEQUENCE { a NULL OPTIONAL, b BOOLEAN, c NULL }",
		"SEQUENCE { a NULL OPTIONAL, b INTEGER DEFAULT 5, c BOOLEAN, d NULL }",
		"SEQUENCE { a NULL, b W, c NULL }",
		"SEQUENCE { a W OPTIONAL }",
		"SEQUENCE { a NULL, b V OPTIONAL }",
		"SEQUENCE { a W, b W, ... }",
		"SEQUENCE { a NULL, ..., b NULL }",
		"SEQUENCE { a NULL OPTIONAL, b INTEGER, ..., d NULL }",
		"SEQUENCE { a NULL OPTIONAL, b BOOLEAN, ..., [[ d NULL, e INTEGER ]] }",
		"SEQUENCE { a T OPTIONAL, b NULL }",
		"SET { a NULL, b BOOLEAN, c [1] NULL }",
		"SET { a W }",
		"SET { a C, b NULL, ... }",
		"SET { a T, b NULL, ..., c [1] W }",
		"CHOICE { a C, b NULL }",
		"CHOICE { a V }",
		"CHOICE { a T, b NULL }",
		"CHOICE { a NULL, ..., b BOOLEAN }",
		"CHOICE { ..., a C }",
	} {
		made(t, "EXPLICIT", "A ::= "+text+names)
	}
	for _, text := range []string{
		"SEQUENCE { a NULL OPTIONAL, b NULL }",
		"SEQUENCE { a NULL DEFAULT NULL, b NULL OPTIONAL }",
		"SEQUENCE { a NULL OPTIONAL, b BOOLEAN OPTIONAL, c NULL }",
		"SEQUENCE { a INTEGER, b NULL OPTIONAL, c BOOLEAN OPTIONAL, d BOOLEAN }",
		"SEQUENCE { a C OPTIONAL, b INTEGER }",
		"SEQUENCE { a INTEGER OPTIONAL, b C }",
		"SEQUENCE { a NULL OPTIONAL, b W }",
		"SEQUENCE { a BOOLEAN OPTIONAL, b W }",
		"SEQUENCE { a W OPTIONAL, b BOOLEAN }",
		"SEQUENCE { a V OPTIONAL, b BOOLEAN }",
		"SEQUENCE { a W OPTIONAL, ... }",
		"SEQUENCE { a NULL, ..., b W }",
		"SEQUENCE { a NULL, ..., b NULL, c NULL }",
		"SEQUENCE { a NULL OPTIONAL, ..., b NULL }",
		"SEQUENCE { b BOOLEAN, a NULL DEFAULT NULL, ..., [[ c INTEGER, d NULL ]] }",
		"SEQUENCE { a NULL, ..., b C, c INTEGER OPTIONAL }",
		"SET { a NULL, b NULL }",
		"SET { a W, b BOOLEAN }",
		"SET { a W, ... }",
		"SET { a NULL, ..., b NULL }",
		"SET { ..., a V }",
		"CHOICE { a C, b INTEGER }",
		"CHOICE { a W, b BOOLEAN }",
		"CHOICE { a W, ... }",
		"CHOICE { a NULL, ..., b W }",
		"CHOICE { a NULL, ..., b NULL }",
		"CHOICE { a [1] NULL, b [2] NULL, c [1] BOOLEAN }",
	} {
		refused(t, "EXPLICIT", "A ::= "+text+names, 0, api.ErrTag)
	}
}

func TestLimits(t *testing.T) {
	deep := strings.Repeat("SEQUENCE OF ", api.MaxDepth)
	made(t, "EXPLICIT", "A ::= "+deep+"NULL")
	made(t, "EXPLICIT", "A ::= "+deep[12:]+"SET { b B } B ::= C C ::= NULL")
	refused(t, "EXPLICIT", "A ::= "+deep+"B B ::= SEQUENCE OF NULL", 0, api.ErrLimit)
	refused(t, "EXPLICIT", "Z ::= NULL A ::= SEQUENCE { a INTEGER, b B } B ::= "+deep+"INTEGER (5..3)", 1, api.ErrLimit)
	many := func(n int) string {
		var l []string
		for i := range n {
			l = append(l, "f"+strconv.Itoa(i)+" NULL")
		}
		return "SEQUENCE {" + strings.Join(l, ",") + "}"
	}
	if x := made(t, "EXPLICIT", "A ::= B B ::= "+many(api.MaxNodes/2-1)); len(x.Types) != api.MaxNodes {
		t.Errorf("P10.1: %d types", len(x.Types))
	}
	refused(t, "EXPLICIT", "A ::= B B ::= "+many(api.MaxNodes/2), 1, api.ErrLimit)
	refused(t, "EXPLICIT", "A ::= B B ::= "+many(api.MaxNodes/2-1)+" C ::= INTEGER (5..3)", 2, api.ErrLimit)
	var doubling string
	for i := range 30 {
		n := strconv.Itoa(i)
		doubling += "T" + n + " ::= SEQUENCE { a T" + strconv.Itoa(i+1) + ", b T" + strconv.Itoa(i+1) + " } "
	}
	refused(t, "EXPLICIT", doubling+"T30 ::= NULL", 0, api.ErrLimit)
}

func TestFind(t *testing.T) {
	x := made(t, "EXPLICIT", "A ::= SET { a NULL } B ::= A C ::= NULL")
	for name, want := range map[string]int{"A": 0, "B": 2, "C": 4, "D": -1, "": -1, "a": -1} {
		if got := table.Find(x, name); got != want {
			t.Errorf("P10.2: Find(%q): %d", name, got)
		}
	}
	if table.Find(api.Table{Names: []string{"A"}}, "A") != -1 {
		t.Error("R1: Find in a table without roots")
	}
}

func TestBegins(t *testing.T) {
	x := made(t, "EXPLICIT", "A ::= CHOICE { a NULL, b CHOICE { c BOOLEAN, d [3] NULL }, e [1] CHOICE { f NULL } } B ::= [2] A C ::= [4] INTEGER D ::= CHOICE { ... }")
	for _, y := range []struct {
		i    int
		want []api.Tag
	}{
		{x.Roots[0], []api.Tag{u(5), u(1), c(3), c(1)}},
		{x.Roots[1], []api.Tag{c(2)}},
		{x.Roots[2], []api.Tag{c(4)}},
		{x.Roots[3], nil},
		{-1, nil}, {len(x.Types), nil}, {math.MaxInt, nil},
	} {
		if got := table.Begins(x, y.i); !slices.Equal(got, y.want) {
			t.Errorf("P10.2: Begins(%d): %v; want %v", y.i, got, y.want)
		}
	}
	table.Begins(x, x.Roots[2])[0].Number = 9
	if !slices.Equal(x.Types[x.Roots[2]].Tags, []api.Tag{c(4), u(2)}) {
		t.Error("R3: Begins answers the tags of the table")
	}
}

func TestBeginsOfMany(t *testing.T) {
	var l []string
	for i := range api.MaxNodes - 1 {
		l = append(l, "f"+strconv.Itoa(i)+" ["+strconv.Itoa(i)+"] NULL")
	}
	x := made(t, "EXPLICIT", "A ::= CHOICE {"+strings.Join(l, ",")+"}")
	if got := table.Begins(x, 0); len(got) != api.MaxNodes-1 || got[api.MaxNodes-2] != c(api.MaxNodes-2) {
		t.Errorf("P10.2: Begins of %d alternatives: %d", api.MaxNodes-1, len(got))
	}
	deep := strings.Repeat("CHOICE { a ", api.MaxDepth) + "NULL" + strings.Repeat(" }", api.MaxDepth)
	if got := table.Begins(made(t, "EXPLICIT", "A ::= "+deep), 0); !slices.Equal(got, []api.Tag{u(5)}) {
		t.Errorf("P10.2: Begins of a deep Choice: %v", got)
	}
}

func TestStrangeArguments(t *testing.T) {
	for _, m := range []api.Module{
		{Names: []string{"A", "B"}},
		{Names: []string{"A"}, Types: []int{7}},
		{Names: []string{"A"}, Types: []int{0}, Nodes: []api.Node{{Kind: 99}}},
		{Names: []string{"A"}, Types: []int{0}, Nodes: []api.Node{{Kind: api.ListOf}}},
		{Names: []string{"A"}, Types: []int{0}, Nodes: []api.Node{{Kind: api.Set, Fields: []api.Field{{Name: "a"}, {Name: "b", Type: -1}}}}},
		{Names: []string{"A"}, Types: []int{0}, Nodes: []api.Node{{Kind: api.Enumerated, Root: -5, Items: []api.Item{{}}}}},
		{Names: []string{"A"}, Types: []int{0}, Nodes: []api.Node{{Kind: api.Enumerated, Root: 5}}},
	} {
		table.Make(m)
	}
	loop := api.Table{Types: []api.Type{{Kind: api.Choice, Fields: []api.Field{{Type: 0}, {Type: 0}, {Type: -3}, {Type: 8}}}}}
	table.Begins(loop, 0)
}

func TestTableIsApart(t *testing.T) {
	text := parsed(t, "EXPLICIT", `A ::= SEQUENCE { a UTF8String DEFAULT "x" }`)
	y, _, _ := table.Make(text)
	y.Types[0].Fields[0].Default.B[0] = 'y'
	if text.Nodes[0].Fields[0].Default.B[0] != 'x' {
		t.Error("R3: the table shares a text with its module")
	}
	m := parsed(t, "EXPLICIT", "A ::= SEQUENCE { a OCTET STRING DEFAULT '01'H, b B } B ::= ENUMERATED { x } C ::= B")
	x, _, _ := table.Make(m)
	x.Names[0], x.Types[0].Fields[0].Name, x.Types[2].Items[0].Name = "Z", "z", "z"
	x.Types[0].Fields[0].Default.B[0] = 9
	x.Types[2].Tags[0].Number = 9
	if m.Names[0] != "A" || m.Nodes[0].Fields[0].Name != "a" || m.Nodes[0].Fields[0].Default.B[0] != 1 || m.Nodes[3].Items[0].Name != "x" {
		t.Error("R3: the table shares memory with its module")
	}
	if x.Types[3].Items[0].Name != "x" || x.Types[3].Tags[0] != u(10) {
		t.Error("R3: two types share memory")
	}
}
