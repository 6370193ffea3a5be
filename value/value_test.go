package value_test

import (
	"math"
	"reflect"
	"strings"
	"testing"

	"ogham/api"
	"ogham/syntax"
	"ogham/table"
	"ogham/value"
)

// made is the table of a module whose first name, A, is this type.
func made(t *testing.T, text string) api.Table {
	t.Helper()
	m, at, e := syntax.Parse("M DEFINITIONS EXPLICIT TAGS ::= BEGIN A ::= " + text + " END")
	if e != api.OK {
		t.Fatalf("Parse of %s: error %d at %d", text, e, at)
	}
	x, _, e := table.Make(m)
	if e != api.OK {
		t.Fatalf("Make of %s: error %d", text, e)
	}
	return x
}

// fits holds the values of a type that fit and those that do not against Fits.
func fits(t *testing.T, text string, good, bad []api.Value) {
	t.Helper()
	x := made(t, text)
	for i, v := range good {
		if !value.Fits(x, 0, v) {
			t.Errorf("P12.1: %s: the value %d does not fit: %+v", text, i, v)
		}
	}
	for i, v := range bad {
		if value.Fits(x, 0, v) {
			t.Errorf("P12.1: %s: the value %d fits: %+v", text, i, v)
		}
	}
}

func n(kind int, v int64) api.Value         { return api.Value{Kind: kind, N: v} }
func b(kind int, s string) api.Value        { return api.Value{Kind: kind, B: []byte(s)} }
func l(kind int, v ...api.Value) api.Value  { return api.Value{Kind: kind, L: v} }
func ch(at int64, v ...api.Value) api.Value { return api.Value{Kind: api.Choice, N: at, L: v} }
func un(rule int, n int64, s string) api.Value {
	return api.Value{Kind: api.Unknown, Rule: rule, N: n, B: []byte(s)}
}

var null = api.Value{Kind: api.Null}

func TestExample(t *testing.T) {
	one, five := n(api.Integer, 1), n(api.Integer, 5)
	fits(t, "SEQUENCE { a INTEGER (0..9), b [1] INTEGER DEFAULT 5, c [2] NULL OPTIONAL }",
		[]api.Value{l(api.Sequence, one, api.Value{}, api.Value{}), l(api.Sequence, one, one, null)},
		[]api.Value{l(api.Sequence, one, five, api.Value{}), l(api.Sequence, api.Value{}, one, null)})
}

func TestNumbers(t *testing.T) {
	fits(t, "BOOLEAN", []api.Value{n(api.Boolean, 0), n(api.Boolean, 1)}, []api.Value{n(api.Boolean, 2), n(api.Boolean, -1), n(api.Integer, 0), {}})
	fits(t, "INTEGER", []api.Value{n(api.Integer, math.MinInt64), n(api.Integer, math.MaxInt64)}, []api.Value{n(api.Boolean, 0), n(api.Enumerated, 0)})
	fits(t, "INTEGER (-2..5)", []api.Value{n(api.Integer, -2), n(api.Integer, 5)}, []api.Value{n(api.Integer, -3), n(api.Integer, 6)})
	fits(t, "INTEGER (-2..5, ...)", []api.Value{n(api.Integer, -3), n(api.Integer, 6)}, nil)
	fits(t, "INTEGER (MIN..5)", []api.Value{n(api.Integer, math.MinInt64)}, []api.Value{n(api.Integer, 6)})
	fits(t, "ENUMERATED { a, b (7), ..., c (9) }", []api.Value{n(api.Enumerated, 0), n(api.Enumerated, 7), n(api.Enumerated, 9)}, []api.Value{n(api.Enumerated, 1), n(api.Enumerated, 8), n(api.Integer, 0)})
	fits(t, "NULL", []api.Value{null}, []api.Value{n(api.Null, 1), {}, n(api.Boolean, 0)})
}

func TestStrings(t *testing.T) {
	most := strings.Repeat("x", api.MaxOctets)
	fits(t, "OCTET STRING", []api.Value{b(api.Octets, ""), b(api.Octets, "\xff"), b(api.Octets, most)}, []api.Value{b(api.Octets, most+"x"), b(api.Text, "")})
	fits(t, "OCTET STRING (SIZE (1..2))", []api.Value{b(api.Octets, "a"), b(api.Octets, "ab")}, []api.Value{b(api.Octets, ""), b(api.Octets, "abc")})
	fits(t, "OCTET STRING (SIZE (1..2, ...))", []api.Value{b(api.Octets, ""), b(api.Octets, "abc"), b(api.Octets, most)}, []api.Value{b(api.Octets, most+"x")})
	fits(t, "UTF8String", []api.Value{b(api.Text, ""), b(api.Text, "é"), b(api.Text, most)}, []api.Value{b(api.Text, "\xff"), b(api.Text, "\xc3"), b(api.Text, "\xed\xa0\x80"), b(api.Text, most+"x"), b(api.Octets, "")})
	fits(t, "UTF8String (SIZE (2))", []api.Value{b(api.Text, "é")}, []api.Value{b(api.Text, "e"), b(api.Text, "éé")})
	fits(t, "UTF8String (SIZE (2, ...))", []api.Value{b(api.Text, "e")}, []api.Value{b(api.Text, "\xff")})
}

func TestLists(t *testing.T) {
	one := n(api.Integer, 1)
	fits(t, "SEQUENCE OF INTEGER (0..1)", []api.Value{l(api.ListOf), l(api.ListOf, one, one)}, []api.Value{l(api.ListOf, one, n(api.Integer, 2)), l(api.ListOf, api.Value{}), l(api.Sequence, one)})
	fits(t, "SEQUENCE (SIZE (1..2)) OF INTEGER", []api.Value{l(api.ListOf, one), l(api.ListOf, one, one)}, []api.Value{l(api.ListOf), l(api.ListOf, one, one, one)})
	fits(t, "SEQUENCE (SIZE (1, ...)) OF INTEGER", []api.Value{l(api.ListOf), l(api.ListOf, one, one, one)}, nil)
	fits(t, "SEQUENCE OF ENUMERATED { a, ... }", []api.Value{l(api.ListOf, un(api.Der, 5, ""), n(api.Enumerated, 0), un(api.Uper, 0, ""))}, []api.Value{l(api.ListOf, un(api.Der, 0, ""))})
}

func TestChoices(t *testing.T) {
	fits(t, "CHOICE { a NULL, b BOOLEAN, ..., c INTEGER }",
		[]api.Value{ch(0, null), ch(1, n(api.Boolean, 1)), ch(2, n(api.Integer, 5))},
		[]api.Value{ch(0), ch(0, null, null), ch(0, n(api.Boolean, 1)), ch(3, null), ch(-1, null), ch(math.MaxInt64, null), ch(math.MinInt64, null), l(api.Sequence, null), ch(0, api.Value{})})
}

func TestSequences(t *testing.T) {
	none := api.Value{}
	for _, kind := range []int{api.Sequence, api.Set} {
		word := map[int]string{api.Sequence: "SEQUENCE", api.Set: "SET"}[kind]
		fits(t, word+" { a [0] NULL, b [1] NULL OPTIONAL, c [2] NULL DEFAULT NULL, d [3] BOOLEAN DEFAULT TRUE, ..., e [4] NULL, f [5] INTEGER OPTIONAL }",
			[]api.Value{l(kind, null, none, none, none, none, none), l(kind, null, null, none, n(api.Boolean, 0), null, n(api.Integer, 1)), l(kind, null, none, none, none, none, n(api.Integer, 1))},
			[]api.Value{l(kind, none, none, none, none, none, none), l(kind, null), l(kind), l(kind, null, none, none, none, none, none, none), l(kind, null, none, null, none, none, none),
				l(kind, null, none, none, n(api.Boolean, 1), none, none), l(kind, null, n(0, 1), none, none, none, none), l(kind, null, none, none, none, n(api.Boolean, 0), none), l(api.Sequence+api.Set-kind, null, none, none, none, none, none)})
		fits(t, word+" {}", []api.Value{l(kind)}, []api.Value{l(kind, none)})
	}
	fits(t, `SEQUENCE { a OCTET STRING DEFAULT '01'H, b UTF8String DEFAULT "x", c ENUMERATED { r, s } DEFAULT s }`,
		[]api.Value{l(api.Sequence, b(api.Octets, "\x02"), b(api.Text, "y"), n(api.Enumerated, 0))},
		[]api.Value{l(api.Sequence, b(api.Octets, "\x01"), none, none), l(api.Sequence, none, b(api.Text, "x"), none), l(api.Sequence, none, none, n(api.Enumerated, 1))})
}

func TestGroups(t *testing.T) {
	none, one := api.Value{}, n(api.Integer, 1)
	fits(t, "SEQUENCE { ..., [[ a [0] INTEGER, b [1] INTEGER OPTIONAL, c [2] INTEGER ]], [[ d [3] INTEGER OPTIONAL, e [4] INTEGER DEFAULT 3 ]], f [5] INTEGER }",
		[]api.Value{l(api.Sequence, none, none, none, none, none, none), l(api.Sequence, one, none, one, none, none, none), l(api.Sequence, one, one, one, none, one, one), l(api.Sequence, none, none, none, one, none, none), l(api.Sequence, none, none, none, none, none, one)},
		[]api.Value{l(api.Sequence, one, none, none, none, none, none), l(api.Sequence, none, one, none, none, none, none), l(api.Sequence, none, none, one, none, none, none), l(api.Sequence, one, one, none, none, none, one)})
}

// TestOtherParts turns each part of a value that its kind does not have.
func TestOtherParts(t *testing.T) {
	for _, x := range []struct {
		text string
		v    api.Value
		has  string // the parts that the kind has
	}{
		{"BOOLEAN", n(api.Boolean, 1), "n"},
		{"INTEGER", n(api.Integer, 1), "n"},
		{"ENUMERATED { a, b, ... }", n(api.Enumerated, 1), "n"},
		{"NULL", null, ""},
		{"OCTET STRING", b(api.Octets, "x"), "b"},
		{"UTF8String", b(api.Text, "x"), "b"},
		{"SEQUENCE OF NULL", l(api.ListOf, null), "l"},
		{"SEQUENCE { a NULL, ... }", l(api.Sequence, null), "l"},
		{"SEQUENCE { a NULL }", l(api.Sequence, null), "l"},
		{"SET { a NULL, ... }", l(api.Set, null), "l"},
		{"CHOICE { a NULL, b [1] NULL, ... }", ch(0, null), "nl"},
	} {
		var bad []api.Value
		for part, turn := range map[string]func(v *api.Value){
			"n":    func(v *api.Value) { v.N = 7 },
			"b":    func(v *api.Value) { v.B = []byte("y") },
			"l":    func(v *api.Value) { v.L = []api.Value{{}} },
			"der":  func(v *api.Value) { v.Rule = api.Der },
			"uper": func(v *api.Value) { v.Rule = api.Uper },
			"more": func(v *api.Value) { v.More = []api.Raw{{}} },
		} {
			if !strings.Contains(x.has, part) {
				v := x.v
				turn(&v)
				bad = append(bad, v)
			}
		}
		fits(t, x.text, []api.Value{x.v}, bad)
	}
}

// with is a value with additions that nobody knows.
func with(v api.Value, rule int, more ...api.Raw) api.Value {
	v.Rule, v.More = rule, more
	return v
}

func raw(n int, s string) api.Raw { return api.Raw{N: n, B: []byte(s)} }

func TestRawsOfDer(t *testing.T) {
	none := api.Value{}
	v := l(api.Sequence, null, none, none)
	fits(t, "SEQUENCE { a [0] NULL, b [1] NULL OPTIONAL, ..., c CHOICE { d [2] NULL, e [3] NULL } }",
		[]api.Value{with(v, api.Der, raw(0, "\x05\x00")), with(v, api.Der, raw(0, "\x80\x00")), with(v, api.Der, raw(0, "\x9f\x1f\x01x"), raw(0, "\x05\x00"), raw(0, "\x05\x00")), with(v, api.Der, raw(0, "\xa4\x02zz"))},
		[]api.Value{with(v, api.Der, raw(0, "\x81\x00")), with(v, api.Der, raw(0, "\xa2\x00")), with(v, api.Der, raw(0, "\x83\x00")), with(v, api.Der, raw(1, "\x05\x00")), with(v, api.Der, raw(0, "")), with(v, api.Der, raw(0, "\x05")),
			with(v, api.Der, raw(0, "\x05\x00\x05")), with(v, api.Der, raw(0, "\x05\x01")), with(v, api.Der, raw(0, "\x05\x81\x00")), with(v, 0, raw(0, "\x05\x00")), with(v, 3, raw(0, "\x05\x00")), with(v, -1, raw(0, "\x05\x00")), with(v, api.Der),
			with(v, api.Der, raw(0, "\x05\x00"), raw(0, "\x05"))})
	fits(t, "SEQUENCE { a [0] NULL OPTIONAL, b [1] NULL OPTIONAL, ... }",
		[]api.Value{with(l(api.Sequence, none, none), api.Der, raw(0, "\x05\x00"))},
		[]api.Value{with(l(api.Sequence, none, none), api.Der, raw(0, "\x80\x00")), with(l(api.Sequence, none, none), api.Der, raw(0, "\x81\x00"))})
	v = l(api.Set, null, none)
	fits(t, "SET { a [0] NULL, b [1] NULL OPTIONAL, ... }",
		[]api.Value{with(v, api.Der, raw(0, "\x05\x00")), with(v, api.Der, raw(0, "\x00\x00"), raw(0, "\x05\x00")), with(v, api.Der, raw(0, "\x05\x00"), raw(0, "\x1e\x00"), raw(0, "\x40\x00"), raw(0, "\x82\x00"))},
		[]api.Value{with(v, api.Der, raw(0, "\x80\x00")), with(v, api.Der, raw(0, "\xa1\x00")), with(v, api.Der, raw(0, "\x05\x00"), raw(0, "\x25\x00")), with(v, api.Der, raw(0, "\x82\x00"), raw(0, "\x05\x00"))})
	fits(t, "SET { a [0] NULL, b [1] NULL OPTIONAL }", []api.Value{v}, []api.Value{with(v, api.Der, raw(0, "\x05\x00")), with(v, api.Uper, raw(5, "x"))})
}

func TestRawsOfPer(t *testing.T) {
	none := api.Value{}
	long := strings.Repeat("x", api.MaxOctets)
	for _, kind := range []int{api.Sequence, api.Set} {
		word := map[int]string{api.Sequence: "SEQUENCE", api.Set: "SET"}[kind]
		v := l(kind, null, none, none, none)
		fits(t, word+" { a [0] NULL, ..., b [1] NULL, [[ c [2] NULL OPTIONAL, d [3] NULL OPTIONAL ]] }",
			[]api.Value{with(v, api.Uper, raw(2, "x")), with(v, api.Uper, raw(2, "x"), raw(3, "y"), raw(999, long))},
			[]api.Value{with(v, api.Uper, raw(1, "x")), with(v, api.Uper, raw(-1, "x")), with(v, api.Uper, raw(2, "")), with(v, api.Uper, raw(2, long+"x")), with(v, api.Uper, raw(1000, "x")),
				with(v, api.Uper, raw(2, "x"), raw(2, "x")), with(v, api.Uper, raw(3, "x"), raw(2, "x")), with(v, api.Uper), with(v, 0, raw(2, "x"))})
	}
}

func TestUnknowns(t *testing.T) {
	long := strings.Repeat("x", api.MaxOctets)
	fits(t, "[1] CHOICE { a NULL, ..., b [0] NULL, c CHOICE { d BOOLEAN } }",
		[]api.Value{un(api.Der, 0, "\x04\x01x"), un(api.Der, 0, "\x81\x00"), un(api.Uper, 2, "x"), un(api.Uper, 999, long)},
		[]api.Value{un(api.Der, 0, "\x05\x00"), un(api.Der, 0, "\xa0\x00"), un(api.Der, 0, "\x01\x00"), un(api.Der, 1, "\x04\x00"), un(api.Der, 0, ""), un(api.Der, 0, "\x04\x00\x04\x00"), un(api.Der, 0, "\x04\x01"),
			un(api.Uper, 1, "x"), un(api.Uper, -1, "x"), un(api.Uper, 1000, "x"), un(api.Uper, math.MaxInt64, "x"), un(api.Uper, 2, ""), un(api.Uper, 2, long+"x"), un(0, 2, "x"), un(3, 2, "x"), {Kind: api.Unknown},
			{Kind: api.Unknown, Rule: api.Uper, N: 2, B: []byte("x"), L: []api.Value{{}}}, {Kind: api.Unknown, Rule: api.Uper, N: 2, B: []byte("x"), More: []api.Raw{{}}}})
	fits(t, "ENUMERATED { a, b (7), ..., c (9) }",
		[]api.Value{un(api.Der, 1, ""), un(api.Der, math.MinInt64, ""), un(api.Uper, 1, ""), un(api.Uper, 7, ""), un(api.Uper, 999, "")},
		[]api.Value{un(api.Der, 0, ""), un(api.Der, 7, ""), un(api.Der, 9, ""), un(api.Der, 1, "x"), un(api.Uper, 0, ""), un(api.Uper, -1, ""), un(api.Uper, 1000, ""), un(api.Uper, 1, "x"), un(0, 1, ""), {Kind: api.Unknown}})
	fits(t, "CHOICE { a NULL }", nil, []api.Value{un(api.Der, 0, "\x04\x00"), un(api.Uper, 0, "x")})
	fits(t, "ENUMERATED { a }", nil, []api.Value{un(api.Der, 1, ""), un(api.Uper, 0, "")})
	fits(t, "SEQUENCE { ... }", nil, []api.Value{un(api.Der, 0, "\x04\x00"), un(api.Uper, 0, "x")})
	fits(t, "SEQUENCE { a CHOICE { ... } OPTIONAL }", []api.Value{l(api.Sequence, un(api.Der, 0, "\x04\x00")), l(api.Sequence, un(api.Uper, 0, "x"))}, []api.Value{l(api.Sequence, api.Value{Kind: api.Unknown})})
}

func TestNoType(t *testing.T) {
	x := made(t, "NULL")
	for _, i := range []int{-1, 1, math.MaxInt, math.MinInt} {
		if value.Fits(x, i, null) {
			t.Errorf("P12.1: a value fits the type %d", i)
		}
	}
}

// nested is a value with this depth.
func nested(depth int) api.Value {
	v := null
	for range depth - 1 {
		v = l(api.ListOf, v)
	}
	return v
}

func TestLimits(t *testing.T) {
	deep := made(t, strings.Repeat("SEQUENCE OF ", api.MaxDepth)+"NULL")
	if !value.Fits(deep, 0, nested(api.MaxDepth+1)) || value.Fits(deep, 0, nested(api.MaxDepth+2)) {
		t.Error("P12.1: the depth of a value")
	}
	endless := api.Table{Types: []api.Type{{Kind: api.ListOf}}}
	deepest := l(api.ListOf)
	for range api.MaxDepth {
		deepest = l(api.ListOf, deepest)
	}
	if !value.Fits(endless, 0, deepest) || value.Fits(endless, 0, l(api.ListOf, deepest)) {
		t.Error("P12.1: the depth of a value of an endless type")
	}
	list := made(t, "SEQUENCE OF SEQUENCE { a NULL OPTIONAL }")
	of := func(n int) api.Value {
		v := l(api.ListOf)
		for range n {
			v.L = append(v.L, l(api.Sequence, api.Value{}))
		}
		return v
	}
	if v := of(2499); value.Count(v) != 4999 || !value.Fits(list, 0, v) {
		t.Errorf("P12.1: a value of %d values", value.Count(v))
	}
	if v := of(2500); value.Count(v) != 5001 || value.Fits(list, 0, v) {
		t.Errorf("P12.1: a value of %d values fits", value.Count(v))
	}
	nulls := made(t, "SEQUENCE OF NULL")
	if v := l(api.ListOf, make([]api.Value, api.MaxItems-1)...); true {
		for i := range v.L {
			v.L[i] = null
		}
		if !value.Fits(nulls, 0, v) || value.Fits(nulls, 0, l(api.ListOf, append(v.L, null)...)) {
			t.Error("P12.1: a value of MaxItems values")
		}
	}
}

func TestCount(t *testing.T) {
	if c := value.Count(api.Value{}); c != 1 {
		t.Errorf("P12.1: Count of an absent value: %d", c)
	}
	v := with(l(api.Sequence, api.Value{}, ch(0, l(api.ListOf, null, null)), un(api.Der, 0, "x")), api.Der, raw(0, "x"))
	if c := value.Count(v); c != 7 {
		t.Errorf("P12.1: Count: %d", c)
	}
	if c := value.Count(nested(1 << 15)); c != 1<<15 {
		t.Errorf("P12.1: Count of a deep value: %d", c)
	}
}

func TestStripAndBare(t *testing.T) {
	inner := with(l(api.Set, null, un(api.Uper, 5, "x")), api.Der, raw(0, "\x05\x00"))
	v := with(l(api.Sequence, api.Value{}, l(api.ListOf, inner), b(api.Octets, "x")), api.Uper, raw(7, "y"))
	want := l(api.Sequence, api.Value{}, l(api.ListOf, l(api.Set, null, api.Value{Kind: api.Unknown})), b(api.Octets, "x"))
	got := value.Strip(v)
	if !reflect.DeepEqual(got, want) {
		t.Errorf("P12.1: Strip: %+v", got)
	}
	got.L[2].B[0] = 'z'
	got.L[1].L[0].L[0].Kind = 9
	if v.L[2].B[0] != 'x' || inner.L[0].Kind != api.Null {
		t.Error("R3: what Strip answers shares memory")
	}
	for _, x := range []struct {
		v    api.Value
		want bool
	}{
		{l(api.ListOf, null), true}, {l(api.ListOf, null, api.Value{Kind: api.Unknown}), false}, {v, false}, {want, false}, {inner, false}, {api.Value{Kind: api.Unknown}, false}, {api.Value{}, true}, {null, true},
		{with(null, 0, raw(0, "")), false}, {l(api.ListOf, l(api.Sequence, null, api.Value{})), true}, {ch(0, ch(0, with(l(api.Set), api.Der, raw(0, "x")))), false},
		{with(l(api.Set), api.Der), true},
	} {
		if value.Bare(x.v) != x.want {
			t.Errorf("P12.1: Bare of %+v", x.v)
		}
		if x.want && !reflect.DeepEqual(value.Strip(x.v), x.v) {
			t.Errorf("consequence: Strip of %+v: %+v", x.v, value.Strip(x.v))
		}
	}
}

func TestValueWithinItself(t *testing.T) {
	endless := api.Table{Types: []api.Type{{Kind: api.ListOf}}}
	list := make([]api.Value, 2)
	for i := range list {
		list[i] = api.Value{Kind: api.ListOf, L: list}
	}
	if value.Fits(endless, 0, list[0]) || value.Bare(list[0]) {
		t.Error("R1: a value that contains itself")
	}
	value.Count(list[0])
	value.Strip(list[0])
}

func TestStrangeTables(t *testing.T) {
	x := api.Table{Types: []api.Type{
		{Kind: api.Sequence, Root: -3, More: true, Fields: []api.Field{{Type: 9}, {Type: 1, Group: -1}}},
		{Kind: api.Choice, Root: 8, More: true, Fields: []api.Field{{Type: 1}}},
		{Kind: api.Enumerated, Root: math.MinInt, More: true},
		{Kind: 77},
	}}
	for i := range x.Types {
		for kind := -1; kind < 14; kind++ {
			for rule := range 4 {
				value.Fits(x, i, api.Value{Kind: kind, Rule: rule, L: []api.Value{null, null}, More: []api.Raw{raw(3, "\x05\x00")}})
				value.Fits(x, i, api.Value{Kind: kind, Rule: rule, L: []api.Value{null}})
				value.Fits(x, i, api.Value{Kind: kind, Rule: rule, B: []byte("\x05\x00")})
			}
		}
	}
}
