package cross_test

import (
	"bytes"
	"math/rand"
	"slices"
	"strconv"
	"strings"
	"testing"

	"ogham/api"
	"ogham/cross"
	"ogham/order"
	"ogham/same"
	"ogham/syntax"
	"ogham/table"
	"ogham/tags"
	"ogham/tlv"
	"ogham/value"
)

// tagger makes types whose tags often cannot be told apart, and values of those that can, with parts that nobody knows.
type tagger struct {
	*rand.Rand
}

func (g tagger) one(texts ...string) string { return texts[g.Intn(len(texts))] }

func (g tagger) mark() string {
	if g.Intn(2) == 0 {
		return ""
	}
	return "[" + strconv.Itoa(g.Intn(5)) + "] " + g.one("", "EXPLICIT ", "EXPLICIT ", "IMPLICIT ")
}

func (g tagger) text(depth int) string {
	kind := g.Intn(9)
	if depth == 0 || kind < 4 {
		return g.mark() + g.one("NULL", "BOOLEAN", "INTEGER", "ENUMERATED { x, y, ... }")
	}
	if kind == 4 {
		return g.mark() + "SEQUENCE OF " + g.text(depth-1)
	}
	word := g.one("SEQUENCE", "SET", "CHOICE", "CHOICE")
	var l []string
	more := g.Intn(2) == 0
	for j := range g.Intn(4) {
		if more && g.Intn(2) == 0 {
			more = false
			l = append(l, "...")
		}
		f := "f" + strconv.Itoa(j) + " " + g.text(depth-1)
		if word != "CHOICE" {
			f += g.one("", "", " OPTIONAL")
		}
		l = append(l, f)
	}
	if more {
		l = append(l, "...")
	}
	return g.mark() + word + " { " + strings.Join(l, ", ") + " }"
}

// element is any element with a low tag.
func (g tagger) element() []byte {
	tag := api.Tag{Class: []int{0, 1, 2, 2, 2}[g.Intn(5)], Number: g.Intn(7)}
	return tlv.Element(tag, g.Intn(2) == 0, []byte("\x05\x00")[:2*g.Intn(2)])
}

// unknown is an Unknown of a type, or nearly one.
func (g tagger) unknown(t api.Table, i, rule int) api.Value {
	x := t.Types[i]
	v := api.Value{Kind: api.Unknown, Rule: rule}
	if x.Kind == api.Choice {
		v.B = g.element()
	}
	if rule == api.Uper {
		v.N = int64(len(order.Slots(t, i)) + len(x.Items) - min(x.Root, len(x.Items)) + g.Intn(70))
	} else if x.Kind == api.Enumerated {
		v.N = int64(g.Intn(9))
	}
	return v
}

func (g tagger) value(t api.Table, i, rule int) api.Value {
	x := t.Types[i]
	if open := x.Kind == api.Choice || x.Kind == api.Enumerated; open && x.More && (g.Intn(3) == 0 || len(x.Fields)+len(x.Items) == 0) {
		return g.unknown(t, i, rule)
	}
	v := api.Value{Kind: x.Kind}
	switch x.Kind {
	case api.Boolean:
		v.N = int64(g.Intn(2))
	case api.Integer:
		v.N = int64(g.Intn(600) - 300)
	case api.Enumerated:
		v.N = x.Items[g.Intn(len(x.Items))].Number
	case api.ListOf:
		for range g.Intn(3) {
			v.L = append(v.L, g.value(t, x.Of, rule))
		}
	case api.Choice:
		v.N = int64(g.Intn(len(x.Fields)))
		v.L = []api.Value{g.value(t, x.Fields[v.N].Type, rule)}
	case api.Sequence, api.Set:
		for j, f := range x.Fields {
			part := g.value(t, f.Type, rule)
			if (f.Optional || j >= x.Root) && g.Intn(2) == 0 {
				part = api.Value{}
			}
			v.L = append(v.L, part)
		}
		if x.More && g.Intn(3) == 0 {
			v.Rule, v.More = rule, g.raws(len(order.Slots(t, i)), rule)
		}
	}
	return v
}

func (g tagger) raws(slots, rule int) []api.Raw {
	var l []api.Raw
	for range 1 + g.Intn(3) {
		raw := api.Raw{B: g.element()}
		if rule == api.Uper {
			raw.N = slots + g.Intn(40)
			slots = raw.N + 1
		}
		l = append(l, raw)
	}
	if rule == api.Der {
		slices.SortFunc(l, func(a, b api.Raw) int {
			x, _, _, _, _ := tlv.TakeHead(a.B)
			y, _, _, _, _ := tlv.TakeHead(b.B)
			if tags.Less(x, y) {
				return -1
			}
			return 1
		})
	}
	return l
}

func TestRandomTags(t *testing.T) {
	g := tagger{rand.New(rand.NewSource(5))}
	fit := 0
	for range 20000 {
		text := "M DEFINITIONS " + g.one("EXPLICIT", "IMPLICIT", "AUTOMATIC") + " TAGS ::= BEGIN A ::= " + g.text(3) + " END"
		m, at, e := syntax.Parse(text)
		if e != api.OK {
			t.Fatalf("%s: error %d at %d", text, e, at)
		}
		x, _, e := table.Make(m)
		if e != api.OK {
			continue
		}
		for _, rule := range []int{api.Der, api.Uper, api.Der} {
			v := g.value(x, 0, rule)
			if !value.Fits(x, 0, v) {
				continue
			}
			fit++
			b, e := cross.Encode(x, 0, rule, v)
			if e != api.OK {
				t.Fatalf("P22.1: %+v of %s by %d: error %d", v, text, rule, e)
			}
			back, e := cross.Decode(x, 0, rule, b)
			if e != api.OK || !same.Values(back, v) {
				t.Fatalf("W3: %+v of %s by %d is % x, read as %+v, error %d", v, text, rule, b, back, e)
			}
			turned := bytes.Clone(b)
			turned[g.Intn(len(b))] ^= 1 << g.Intn(8)
			if other, e := cross.Decode(x, 0, rule, turned); e == api.OK && rule == api.Der && same.Values(other, v) {
				t.Fatalf("W3: % x and % x are both read as %+v of %s", b, turned, v, text)
			}
		}
	}
	if fit < 10000 {
		t.Errorf("only %d values fit", fit)
	}
}
