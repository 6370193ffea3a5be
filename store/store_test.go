package store_test

import (
	"reflect"
	"slices"
	"strconv"
	"strings"
	"testing"

	"ogham/api"
	"ogham/print"
	"ogham/store"
	"ogham/syntax"
	"ogham/table"
)

func module(name, assignments string) string {
	return name + " DEFINITIONS AUTOMATIC TAGS ::= BEGIN " + assignments + " END"
}

// printed is the canonical text of a module.
func printed(t *testing.T, text string) string {
	t.Helper()
	m, at, e := syntax.Parse(text)
	if e != api.OK {
		t.Fatalf("Parse of %s: error %d at %d", text, e, at)
	}
	return print.Print(m)
}

// registered is a store with these modules.
func registered(t *testing.T, texts ...string) *store.Store {
	t.Helper()
	s := store.New()
	for _, text := range texts {
		if _, at, e := s.Register(text); e != api.OK {
			t.Fatalf("P23.1: Register of %.200s: error %d at %d", text, e, at)
		}
	}
	return s
}

// growing is version n of a module that grows.
func growing(name string, n int) string {
	text := "A ::= SEQUENCE { a NULL, ..."
	for i := range n {
		text += ", b" + strconv.Itoa(i) + " NULL"
	}
	return module(name, text+" }")
}

func TestExample(t *testing.T) {
	s := store.New()
	if n, at, e := s.Register(module("M", "A ::= SEQUENCE { a NULL, ... }")); n != 1 || at != 0 || e != api.OK {
		t.Errorf("P23.1: %d, error %d at %d", n, e, at)
	}
	if n, at, e := s.Register(module("M", "A::=SEQUENCE{a NULL,...} -- c --")); n != 0 || at != 0 || e != api.ErrTwice {
		t.Errorf("P23.1: other white space: %d, error %d at %d", n, e, at)
	}
	if n, at, e := s.Register(module("M", "A ::= SEQUENCE { a NULL, ..., b NULL }")); n != 2 || at != 0 || e != api.OK {
		t.Errorf("P23.1: %d, error %d at %d", n, e, at)
	}
}

func TestRegisterRefuses(t *testing.T) {
	full := []string{}
	for i := range api.MaxVersions {
		full = append(full, growing("M", i))
	}
	var many []string
	for i := range api.MaxModules {
		many = append(many, module("M"+strconv.Itoa(i), "A ::= NULL"))
	}
	var items []string
	for i := range 1500 {
		items = append(items, "i"+strconv.Itoa(i))
	}
	long := module("L", "A ::= ENUMERATED{"+strings.Join(items, ",")+"}")
	if len(long) > api.MaxText || len(printed(t, long)) <= api.MaxText {
		t.Fatalf("a text of %d bytes, printed %d", len(long), len(printed(t, long)))
	}
	limit := long
	for n := len(items); len(printed(t, limit)) > api.MaxText; n-- {
		limit = module("L", "A ::= ENUMERATED{"+strings.Join(items[:n], ",")+"}")
	}
	limit = strings.Replace(limit, "{i0,", "{i"+strings.Repeat("0", api.MaxText-len(printed(t, limit))+1)+",", 1)
	if len(printed(t, limit)) != api.MaxText {
		t.Fatalf("a text printed of %d bytes", len(printed(t, limit)))
	}
	registered(t, limit)
	for i, x := range []struct {
		has  []string
		text string
		at   int
		want api.Errno
	}{
		{nil, "M ::=", 2, api.ErrSyntax},
		{nil, "M ;", 2, api.ErrToken},
		{nil, strings.Repeat(" ", api.MaxText+1), 0, api.ErrLimit},
		{nil, module("M", "A ::= NULL B ::= [-1] NULL"), len("M DEFINITIONS AUTOMATIC TAGS ::= BEGIN A ::= NULL B ::= ["), api.ErrTag},
		{nil, module("M", "A ::= NULL B ::= X"), 1, api.ErrNone},
		{nil, module("M", "A ::= NULL B ::= NULL C ::= INTEGER (3..2)"), 2, api.ErrBound},
		{nil, module("M", "A ::= NULL A ::= NULL"), 1, api.ErrTwice},
		{full[:3], full[0], 0, api.ErrTwice},
		{full[:3], full[2], 0, api.ErrTwice},
		{full[:3], module("M", "Z ::= NULL A ::= SEQUENCE { a NULL, ... }"), 0, api.ErrExt},
		{[]string{module("M", "A ::= NULL B ::= NULL")}, module("M", "A ::= NULL B ::= BOOLEAN"), 1, api.ErrExt},
		{[]string{module("M", "A ::= NULL B ::= NULL")}, module("M", "A ::= NULL"), 1, api.ErrExt},
		{nil, long, 0, api.ErrLimit},
		{many, long, 0, api.ErrLimit},
		{[]string{module("L", "A ::= NULL")}, long, 0, api.ErrExt},
		{full, growing("M", 9), 0, api.ErrFull},
		{full, full[7], 0, api.ErrTwice},
		{full, module("M", "B ::= NULL"), 0, api.ErrExt},
		{many, module("N", "A ::= NULL"), 0, api.ErrFull},
		{many, module("N", "A ::= X"), 0, api.ErrNone},
	} {
		s := registered(t, x.has...)
		before := s.Families()
		n, at, e := s.Register(x.text)
		if n != 0 || at != x.at || e != x.want {
			t.Errorf("P23.1: row %d: Register: %d, error %d at %d; want %d at %d", i, n, e, at, x.want, x.at)
		}
		name, _, _ := strings.Cut(x.text, " ")
		if at, e := s.Check(name, x.text); at != x.at || e != x.want {
			t.Errorf("P23.1: row %d: Check: error %d at %d; want %d at %d", i, e, at, x.want, x.at)
		}
		if !reflect.DeepEqual(s.Families(), before) {
			t.Errorf("P23.1: row %d: an error changed the store", i)
		}
	}
	s := registered(t, many...)
	if n, at, e := s.Register(module("M3", "A ::= NULL B ::= NULL")); n != 2 || at != 0 || e != api.OK {
		t.Errorf("P23.1: a version in a full store: %d, error %d at %d", n, e, at)
	}
}

func TestCheck(t *testing.T) {
	s := registered(t, growing("M", 0))
	for i, x := range []struct {
		name, text string
		at         int
		want       api.Errno
	}{
		{"M", growing("M", 1), 0, api.OK},
		{"N", growing("N", 1), 0, api.OK},
		{"N", growing("M", 1), 0, api.ErrArg},
		{"", growing("M", 0), 0, api.ErrArg},
		{"N", module("M", "B ::= NULL"), 0, api.ErrArg},
		{"N", "M ::=", 2, api.ErrSyntax},
		{"N", module("M", "A ::= NULL B ::= X"), 1, api.ErrNone},
		{"M", growing("M", 0), 0, api.ErrTwice},
	} {
		if at, e := s.Check(x.name, x.text); at != x.at || e != x.want {
			t.Errorf("P23.1: row %d: error %d at %d; want %d at %d", i, e, at, x.want, x.at)
		}
	}
	if !slices.Equal(s.Versions("M"), []int{1}) || len(s.Modules()) != 1 {
		t.Errorf("P23.1: Check has an effect: %v", s.Families())
	}
}

func TestQueries(t *testing.T) {
	s := registered(t, growing("N", 0), growing("B", 1), growing("N", 2), growing("Na", 0), growing("N", 5), growing("A-b", 0))
	if got := s.Modules(); !slices.Equal(got, []string{"A-b", "B", "N", "Na"}) {
		t.Errorf("P23.2: Modules: %v", got)
	}
	for name, want := range map[string][]int{"N": {1, 2, 3}, "B": {1}, "A": nil, "": nil, "n": nil} {
		if got := s.Versions(name); !slices.Equal(got, want) {
			t.Errorf("P23.2: Versions(%q): %v", name, got)
		}
	}
	for _, x := range []struct {
		name string
		n    int
		text string
	}{{"N", 1, growing("N", 0)}, {"N", 2, growing("N", 2)}, {"N", 3, growing("N", 5)}, {"N", 0, growing("N", 5)}, {"B", 0, growing("B", 1)}} {
		text := printed(t, x.text)
		if got, e := s.Fetch(x.name, x.n); got != text || e != api.OK {
			t.Errorf("P23.2: Fetch(%s, %d): %q, error %d", x.name, x.n, got, e)
		}
		m, _, _ := syntax.Parse(text)
		want, _, _ := table.Make(m)
		got, e := s.Table(x.name, x.n)
		if !reflect.DeepEqual(got, want) || e != api.OK {
			t.Errorf("P23.2: Table(%s, %d): %+v, error %d", x.name, x.n, got, e)
		}
		got.Types[0].Kind, got.Names[0] = 0, "Z"
		if again, _ := s.Table(x.name, x.n); !reflect.DeepEqual(again, want) {
			t.Errorf("R3: a table that was answered is that of the store")
		}
	}
	for _, x := range []struct {
		name string
		n    int
	}{{"N", 4}, {"N", -1}, {"X", 0}, {"X", 1}, {"", 0}, {"N", 1 << 40}, {"N", -1 << 63}} {
		if got, e := s.Fetch(x.name, x.n); got != "" || e != api.ErrNone {
			t.Errorf("P23.2: Fetch(%q, %d): %q, error %d", x.name, x.n, got, e)
		}
		if got, e := s.Table(x.name, x.n); !reflect.DeepEqual(got, api.Table{}) || e != api.ErrNone {
			t.Errorf("P23.2: Table(%q, %d): error %d", x.name, x.n, e)
		}
	}
	families := s.Families()
	if len(families) != 4 || families[2].Name != "N" || len(families[2].Versions) != 3 || families[2].Versions[1] != (api.Version{N: 2, Text: printed(t, growing("N", 2))}) {
		t.Errorf("P23.2: Families: %+v", families)
	}
	families[0].Name, families[2].Versions[0].Text = "Z", ""
	if text, _ := s.Fetch("N", 1); s.Modules()[0] != "A-b" || text == "" {
		t.Error("R3: the families that were answered are those of the store")
	}
}

func TestFork(t *testing.T) {
	s := registered(t, growing("M", 0))
	f := s.Fork()
	if n, _, e := f.Register(growing("M", 1)); n != 2 || e != api.OK {
		t.Errorf("P23.2: %d, error %d", n, e)
	}
	f.Register(growing("A", 0))
	if n, _, e := s.Register(growing("M", 2)); n != 2 || e != api.OK || len(s.Modules()) != 1 {
		t.Errorf("P23.2: %d, error %d", n, e)
	}
	one, _ := s.Fetch("M", 2)
	two, _ := f.Fetch("M", 2)
	if one != printed(t, growing("M", 2)) || two != printed(t, growing("M", 1)) {
		t.Error("P23.2: the copy hangs on its origin")
	}
	g := store.New().Fork()
	if len(g.Modules()) != 0 {
		t.Error("P23.2: the copy of an empty store")
	}
}

func TestEmptyAndNil(t *testing.T) {
	for _, s := range []*store.Store{store.New(), {}} {
		if len(s.Modules()) != 0 || len(s.Versions("M")) != 0 || len(s.Families()) != 0 {
			t.Error("P23.1: an empty store has modules")
		}
		if n, _, e := s.Register(growing("M", 0)); n != 1 || e != api.OK {
			t.Errorf("P23.1: %d, error %d", n, e)
		}
	}
	var s *store.Store
	n, at, e := s.Register("M ::=")
	if n != 0 || at != 0 || e != api.ErrNil {
		t.Errorf("P23.2: Register: error %d at %d", e, at)
	}
	if at, e := s.Check("M", "M ::="); at != 0 || e != api.ErrNil {
		t.Errorf("P23.2: Check: error %d at %d", e, at)
	}
	if _, e := s.Fetch("M", 0); e != api.ErrNil {
		t.Errorf("P23.2: Fetch: error %d", e)
	}
	if _, e := s.Table("M", 0); e != api.ErrNil {
		t.Errorf("P23.2: Table: error %d", e)
	}
	if s.Modules() != nil || s.Versions("M") != nil || s.Families() != nil || s.Fork() != nil {
		t.Error("P23.2: a nil store")
	}
}
