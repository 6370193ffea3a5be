package refs_test

import (
	"slices"
	"strings"
	"testing"

	"ogham/api"
	"ogham/refs"
	"ogham/syntax"
)

func parsed(t *testing.T, assignments string) api.Module {
	t.Helper()
	m, at, e := syntax.Parse("M DEFINITIONS ::= BEGIN " + assignments + " END")
	if e != api.OK {
		t.Fatalf("Parse: error %d at %d", e, at)
	}
	return m
}

func TestFind(t *testing.T) {
	m := api.Module{Names: []string{"A", "B", "A", "b"}}
	for name, want := range map[string]int{"A": 0, "B": 1, "b": 3, "C": -1, "": -1, "a": -1, "AB": -1} {
		if got := refs.Find(m, name); got != want {
			t.Errorf("P7.1: Find(%q): %d", name, got)
		}
	}
	if refs.Find(api.Module{}, "A") != -1 {
		t.Error("P7.1: Find in no module")
	}
}

func TestUses(t *testing.T) {
	m := parsed(t, `A ::= SEQUENCE { a D, b SET { c B, d D }, e SEQUENCE OF C, f X, g A } B ::= [1] C C ::= NULL
		D ::= CHOICE { a NULL, b ENUMERATED { c }, c SEQUENCE OF SEQUENCE OF [2] B } A ::= NULL`)
	for _, x := range []struct {
		node int
		want []int
	}{
		{m.Types[0], []int{3, 1, 2, 0}},
		{m.Types[1], []int{2}},
		{m.Types[2], nil},
		{m.Types[3], []int{1}},
		{2, []int{1, 3}}, // the Set in A
		{-1, nil}, {len(m.Nodes), nil}, {1 << 40, nil},
	} {
		if got := refs.Uses(m, x.node); !slices.Equal(got, x.want) {
			t.Errorf("P7.1: Uses of the node %d: %v; want %v", x.node, got, x.want)
		}
	}
}

func TestOrder(t *testing.T) {
	for _, x := range []struct {
		text string
		want []int
	}{
		{"", nil},
		{"A ::= B B ::= INTEGER", []int{1, 0}},
		{"A ::= NULL B ::= NULL C ::= NULL", []int{0, 1, 2}},
		{"A ::= C B ::= NULL C ::= NULL", []int{1, 2, 0}},
		{"A ::= SEQUENCE { a E } B ::= NULL C ::= A D ::= SEQUENCE OF B E ::= NULL", []int{1, 3, 4, 0, 2}},
		{"A ::= B B ::= C C ::= D D ::= NULL", []int{3, 2, 1, 0}},
		{"A ::= SET { b B, c C } B ::= D C ::= D D ::= NULL", []int{3, 1, 2, 0}},
	} {
		got, at, e := refs.Order(parsed(t, x.text))
		if !slices.Equal(got, x.want) || at != 0 || e != api.OK {
			t.Errorf("P7.2: Order of %s: %v, at %d, error %d; want %v", x.text, got, at, e, x.want)
		}
	}
}

func TestOrderRefuses(t *testing.T) {
	for _, x := range []struct {
		text string
		at   int
		want api.Errno
	}{
		{"A ::= SEQUENCE OF A", 0, api.ErrCycle},
		{"A ::= NULL B ::= A A ::= NULL B ::= NULL", 2, api.ErrTwice},
		{"A ::= X B ::= NULL B ::= B", 2, api.ErrTwice},
		{"A ::= X B ::= Y", 0, api.ErrNone},
		{"A ::= A B ::= SEQUENCE { a NULL, b SEQUENCE OF X }", 1, api.ErrNone},
		{"A ::= NULL B ::= Y C ::= X", 1, api.ErrNone},
		{"A ::= B B ::= C C ::= D D ::= B", 1, api.ErrCycle},
		{"A ::= D B ::= NULL C ::= CHOICE { a NULL, b D } D ::= SET { c C }", 2, api.ErrCycle},
		{"A ::= B B ::= A", 0, api.ErrCycle},
		{"A ::= B B ::= B", 1, api.ErrCycle},
	} {
		got, at, e := refs.Order(parsed(t, x.text))
		if len(got) != 0 || at != x.at || e != x.want {
			t.Errorf("P7.2: Order of %s: %v, at %d, error %d; want error %d at %d", x.text, got, at, e, x.want, x.at)
		}
	}
}

func TestOrderHasEachAfterItsUses(t *testing.T) {
	var text strings.Builder
	for i := range api.MaxTypes {
		name := func(i int) string { return "T" + string(rune('a'+i/10)) + string(rune('0'+i%10)) }
		if i == 0 {
			text.WriteString(name(i) + " ::= NULL ")
			continue
		}
		text.WriteString(name(i) + " ::= SEQUENCE { a " + name(i*7%i) + ", b " + name(i/2) + " } ")
	}
	m := parsed(t, text.String())
	slices.Reverse(m.Names)
	slices.Reverse(m.Types)
	order, _, e := refs.Order(m)
	if e != api.OK || len(order) != api.MaxTypes {
		t.Fatalf("P7.2: %d names, error %d", len(order), e)
	}
	for k, i := range order {
		for _, u := range refs.Uses(m, m.Types[i]) {
			if slices.Index(order, u) >= k {
				t.Errorf("consequence: %s comes before %s", m.Names[i], m.Names[u])
			}
		}
	}
}

func TestStrangeModules(t *testing.T) {
	for _, m := range []api.Module{
		{Names: []string{"A", "B"}},
		{Names: []string{"A"}, Types: []int{7}},
		{Names: []string{"A"}, Types: []int{0}, Nodes: []api.Node{{Kind: api.ListOf, Of: 0}}},
		{Names: []string{"A"}, Types: []int{0}, Nodes: []api.Node{{Kind: api.Set, Fields: []api.Field{{Type: -1}, {Type: 9}, {Type: 0}}}}},
		{Types: []int{1, 2, 3}},
	} {
		refs.Order(m)
		refs.Uses(m, 0)
	}
}
