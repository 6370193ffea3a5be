package cross_test

import (
	"math"
	"math/rand"
	"strconv"
	"strings"
	"testing"

	"ogham/api"
	"ogham/cross"
	"ogham/extend"
	"ogham/note"
	"ogham/project"
	"ogham/same"
	"ogham/value"
)

// versions is how many versions a random type has.
const versions = 3

// shape is a random type: each part of it knows from which version on it is there.
type shape struct {
	word   string // up to the parts
	from   []int  // of each part: the version, or 0 for a Root part
	group  []int  // of each part: its version bracket, or 0
	more   bool
	parts  []*shape // of fields, or the one of a list
	suffix []string // of each part: OPTIONAL, DEFAULT ..
	items  bool
}

type maker struct {
	*rand.Rand
}

func (m maker) one(texts ...string) string { return texts[m.Intn(len(texts))] }

// leaf is a type without parts, and a default of it.
func (m maker) leaf() (*shape, string) {
	switch m.Intn(6) {
	case 0:
		return &shape{word: "BOOLEAN"}, m.one("TRUE", "FALSE")
	case 1:
		return &shape{word: "NULL"}, "NULL"
	case 2:
		return &shape{word: "INTEGER" + m.one("", " (0..7)", " (-3..100, ...)", " (3..MAX)", " (3..MAX, ...)", " (MIN..50)", " (MIN..50, ...)", " (4)", " (-70000..70000)")}, "4"
	case 3:
		return &shape{word: "OCTET STRING" + m.one("", " (SIZE (1))", " (SIZE (1..3))", " (SIZE (0..2, ...))", " (SIZE (1..MAX))")}, "'AB'H"
	case 4:
		return &shape{word: "UTF8String" + m.one("", " (SIZE (1..3))", " (SIZE (1, ...))")}, `"x"`
	}
	s := &shape{word: "ENUMERATED", items: true, more: m.Intn(2) == 0}
	m.grow(s, 1+m.Intn(3))
	return s, "i0"
}

// grow gives a shape root parts, and additions if it may have them.
func (m maker) grow(s *shape, root int) {
	for range root {
		s.from = append(s.from, 0)
	}
	if s.more {
		for v := range versions {
			for range m.Intn(3) {
				s.from = append(s.from, v+1)
			}
		}
	}
}

func (m maker) shape(depth int) (*shape, string) {
	kind := m.Intn(8)
	if depth == 0 || kind > 4 {
		return m.leaf()
	}
	if kind == 4 {
		of, _ := m.shape(depth - 1)
		return &shape{word: "SEQUENCE" + m.one("", " (SIZE (0..2))", " (SIZE (1..3, ...))", " (SIZE (2))") + " OF", parts: []*shape{of}}, ""
	}
	s := &shape{word: []string{"SEQUENCE", "SET", "CHOICE", "SEQUENCE"}[kind], more: m.Intn(3) > 0}
	m.grow(s, m.Intn(4))
	if len(s.from) == 0 || kind == 2 && s.from[0] != 0 {
		s.from = append([]int{0}, s.from...)
	}
	group := 0
	for j, from := range s.from {
		part, def := m.shape(depth - 1)
		suffix := m.one("", "", " OPTIONAL", " DEFAULT "+def)
		if kind == 2 || def == "" && strings.HasPrefix(suffix, " DEFAULT") {
			suffix = ""
		}
		s.parts, s.suffix = append(s.parts, part), append(s.suffix, suffix)
		g := 0
		if from > 0 && kind != 2 && m.Intn(2) == 0 {
			if group == 0 || s.from[j-1] != from || s.group[j-1] == 0 || m.Intn(2) == 0 {
				group++
			}
			g = group
		}
		s.group = append(s.group, g)
	}
	return s, ""
}

// text is the text of a shape in a version.
func (s *shape) text(version int) string {
	if len(s.from) == 0 {
		if len(s.parts) == 1 {
			return s.word + " " + s.parts[0].text(version)
		}
		return s.word
	}
	var l []string
	last := 0
	for j, from := range s.from {
		if from > version {
			continue
		}
		if from > 0 && last == 0 {
			l = append(l, "...")
		}
		if from > 0 {
			last = 1
		}
		part := "i" + strconv.Itoa(j)
		if !s.items {
			part = "f" + strconv.Itoa(j) + " " + s.parts[j].text(version) + s.suffix[j]
			if g := s.group[j]; g > 0 {
				if j == 0 || s.group[j-1] != g {
					part = "[[ " + part
				}
				if j+1 == len(s.group) || s.group[j+1] != g {
					part += " ]]"
				}
			}
		}
		l = append(l, part)
	}
	if s.more && last == 0 {
		l = append(l, "...")
	}
	return s.word + " { " + strings.Join(l, ", ") + " }"
}

// value is a random value that fits a type, if its parts do.
func (m maker) value(t api.Table, i int) api.Value {
	x := t.Types[i]
	v := api.Value{Kind: x.Kind}
	switch x.Kind {
	case api.Boolean:
		v.N = int64(m.Intn(2))
	case api.Integer:
		v.N = m.number(x.Con)
	case api.Enumerated:
		v.N = x.Items[m.Intn(len(x.Items))].Number
	case api.Octets, api.Text:
		v.B = []byte(strings.Repeat(m.one("x", "y", "z"), m.size(x.Con)))
	case api.ListOf:
		for range m.size(x.Con) {
			v.L = append(v.L, m.value(t, x.Of))
		}
	case api.Choice:
		v.N = int64(m.Intn(len(x.Fields)))
		v.L = []api.Value{m.value(t, x.Fields[v.N].Type)}
	case api.Sequence, api.Set:
		for j, f := range x.Fields {
			part := m.value(t, f.Type)
			if (f.Optional || f.Has || j >= x.Root && f.Group == 0) && m.Intn(2) == 0 || f.Has && same.Values(part, f.Default) {
				part = api.Value{}
			}
			v.L = append(v.L, part)
		}
		m.dropGroups(x, v)
	}
	return v
}

// dropGroups makes some version brackets absent as a whole.
func (m maker) dropGroups(x api.Type, v api.Value) {
	for g := range len(x.Fields) + 1 {
		if g == 0 || m.Intn(2) == 0 {
			continue
		}
		for j, f := range x.Fields {
			if f.Group == g {
				v.L[j] = api.Value{}
			}
		}
	}
}

func (m maker) number(c api.Con) int64 {
	for {
		n := []int64{0, 1, -1, 4, 5, 7, 8, 50, 51, 100, 127, 128, -128, -129, 65535, -70000, math.MaxInt64, math.MinInt64}[m.Intn(18)]
		if c.More || !c.Has || (!c.HasLow || n >= c.Low) && (!c.HasHigh || n <= c.High) {
			return n
		}
	}
}

func (m maker) size(c api.Con) int {
	for {
		n := m.Intn(5)
		if c.More || !c.Has || int64(n) >= c.Low && (!c.HasHigh || int64(n) <= c.High) {
			return n
		}
	}
}

func TestRandomVersions(t *testing.T) {
	m := maker{rand.New(rand.NewSource(7))}
	for range 500 {
		s, _ := m.shape(3)
		var tables []api.Table
		fits := true
		for version := range versions + 1 {
			text := "A ::= " + s.text(version)
			fits = fits && len(text) < 7000 && strings.Count(text, " ") < 900
			if fits {
				tables = append(tables, made(t, text))
			}
		}
		if !fits {
			continue
		}
		for from := range tables {
			for range 4 {
				v := m.value(tables[from], 0)
				if !value.Fits(tables[from], 0, v) {
					t.Fatalf("P12.1: a value does not fit %s: %+v", s.text(from), v)
				}
				for to := range tables {
					holds(t, s, tables, from, to, v)
				}
			}
		}
	}
}

// holds checks that a value of one version is read by another one as exactly what that knows of it.
func holds(t *testing.T, s *shape, tables []api.Table, from, to int, v api.Value) {
	t.Helper()
	a, b := tables[from], tables[to]
	if _, e := extend.May(a, b); from <= to && e != api.OK {
		t.Fatalf("P21.1: %s does not extend %s", s.text(to), s.text(from))
	}
	if text, e := note.Print(a, 0, v); e == api.OK {
		if back, at, e := note.Parse(a, 0, text); e != api.OK || !same.Values(back, v) {
			t.Fatalf("P13.2: %s of %s: error %d at %d", text, s.text(from), e, at)
		}
	}
	want, e := project.Value(a, 0, b, 0, v)
	if e != api.OK {
		t.Fatalf("P14.1: %+v of %s over to %s: error %d", v, s.text(from), s.text(to), e)
	}
	for _, rule := range []int{api.Der, api.Uper} {
		data, e := cross.Encode(a, 0, rule, v)
		if e != api.OK {
			t.Fatalf("P22.1: %+v of %s by %d: error %d", v, s.text(from), rule, e)
		}
		read, e := cross.Decode(b, 0, rule, data)
		if e != api.OK || !same.Values(value.Strip(read), want) {
			t.Fatalf("W2: %+v of %s by %d is % x, read as %+v of %s, error %d", v, s.text(from), rule, data, read, s.text(to), e)
		}
		again, e := cross.Encode(b, 0, rule, read)
		if e != api.OK || rule == api.Der && string(again) != string(data) {
			t.Fatalf("W3: % x of %s is written as % x of %s, error %d", data, s.text(from), again, s.text(to), e)
		}
		if back, e := cross.Decode(a, 0, rule, again); e != api.OK || !same.Values(back, v) {
			t.Fatalf("W2: %+v of %s went over to %s and came back as %+v, error %d", v, s.text(from), s.text(to), back, e)
		}
		for k := range min(len(data), 40) {
			turned := append([]byte(nil), data...)
			turned[k] ^= 1 << (k % 8)
			if other, e := cross.Decode(b, 0, rule, turned); e == api.OK && same.Values(other, read) && rule == api.Der {
				t.Fatalf("W3: % x and % x are both read as %+v", data, turned, other)
			}
		}
	}
}
