package audit_test

import (
	"reflect"
	"slices"
	"strconv"
	"testing"

	"ogham/api"
	"ogham/audit"
	"ogham/store"
)

// text is version n of a module that grows, as it is printed.
func text(name string, n int) string {
	s := name + " DEFINITIONS EXPLICIT TAGS ::= BEGIN\nA ::= SEQUENCE { ..."
	for i := range n {
		s += ", b" + strconv.Itoa(i) + " [" + strconv.Itoa(i) + "] NULL"
	}
	return s + " }\nEND\n"
}

// family has the versions with these texts, numbered from 1 on.
func family(name string, texts ...string) api.Family {
	f := api.Family{Name: name}
	for i, s := range texts {
		f.Versions = append(f.Versions, api.Version{N: i + 1, Text: s})
	}
	return f
}

func growing(name string, n int) api.Family {
	var texts []string
	for i := range n {
		texts = append(texts, text(name, i))
	}
	return family(name, texts...)
}

func numbered(name string, numbers ...int) api.Family {
	f := growing(name, len(numbers))
	for i, n := range numbers {
		f.Versions[i].N = n
	}
	return f
}

func TestCheck(t *testing.T) {
	many := func(n int) []api.Family {
		var l []api.Family
		for i := range n {
			l = append(l, growing("M"+strconv.Itoa(i), 1))
		}
		return l
	}
	printed := "M DEFINITIONS EXPLICIT TAGS ::= BEGIN\nA ::= NULL\nEND\n"
	for i, x := range []struct {
		l    []api.Family
		want []int
	}{
		{nil, nil},
		{[]api.Family{growing("M", 1)}, nil},
		{[]api.Family{growing("A", 8), growing("B", 2), growing("Ba", 1)}, nil},
		{[]api.Family{growing("B", 1), growing("A", 1)}, []int{1}},
		{[]api.Family{growing("A", 1), growing("A", 1)}, []int{1}},
		{[]api.Family{growing("A", 1), growing("C", 1), growing("B", 1)}, []int{1}},
		{many(8), nil},
		{many(9), []int{1}},
		{[]api.Family{growing("M", 0)}, []int{2}},
		{[]api.Family{growing("M", 9)}, []int{2}},
		{[]api.Family{numbered("M", 1, 2, 3)}, nil},
		{[]api.Family{numbered("M", 0)}, []int{2}},
		{[]api.Family{numbered("M", 1, 3)}, []int{2}},
		{[]api.Family{numbered("M", 2, 1)}, []int{2}},
		{[]api.Family{growing("A", 1), numbered("M", 1, 1)}, []int{2}},
		{[]api.Family{family("M", printed)}, nil},
		{[]api.Family{family("M", printed+" ")}, []int{3}},
		{[]api.Family{family("M", printed[:len(printed)-1])}, []int{3}},
		{[]api.Family{family("M", "M DEFINITIONS ::= BEGIN\nA ::= NULL\nEND\n")}, []int{3}},
		{[]api.Family{family("N", printed)}, []int{3}},
		{[]api.Family{family("M", "")}, []int{3}},
		{[]api.Family{family("M", "M ;")}, []int{3}},
		{[]api.Family{family("M", "M DEFINITIONS EXPLICIT TAGS ::= BEGIN\nA ::= B\nEND\n")}, []int{3}},
		{[]api.Family{family("M", "M DEFINITIONS EXPLICIT TAGS ::= BEGIN\nA ::= INTEGER (5..3)\nEND\n")}, []int{3}},
		{[]api.Family{family("M", text("M", 1), text("M", 0))}, []int{4}},
		{[]api.Family{family("M", text("M", 1), text("M", 1))}, []int{4}},
		{[]api.Family{family("M", text("M", 0), text("M", 2), text("M", 1), text("M", 3))}, []int{4}},
		// Rule 4 says nothing of a family that violates rule 3; but it does of another one.
		{[]api.Family{family("M", printed+" ", printed+" ")}, []int{3}},
		{[]api.Family{family("M", text("M", 1), text("M", 0), "")}, []int{3}},
		{[]api.Family{family("L", ""), family("M", text("M", 1), text("M", 0))}, []int{3, 4}},
		{[]api.Family{numbered("Z"), family("M", text("M", 1), text("M", 0)), family("N", "")}, []int{1, 2, 3, 4}},
		{[]api.Family{numbered("M", 7, 7), numbered("A", 7)}, []int{1, 2}},
	} {
		if got := audit.Check(x.l); !slices.Equal(got, x.want) {
			t.Errorf("P25.1: row %d: %v; want %v", i, got, x.want)
		}
	}
}

func TestEqualTextsApart(t *testing.T) {
	a, b := "M DEFINITIONS EXPLICIT TAGS ::= BEGIN\nA ::= NULL\nEND\n", "M DEFINITIONS IMPLICIT TAGS ::= BEGIN\nA ::= NULL\nEND\n"
	if got := audit.Check([]api.Family{family("M", a, b)}); len(got) != 0 {
		t.Errorf("P25.1: two texts with the same table: %v", got)
	}
	if got := audit.Check([]api.Family{family("M", a, b, a)}); !slices.Equal(got, []int{4}) {
		t.Errorf("P25.1: two texts that are equal, but not one after the other: %v", got)
	}
}

func TestTables(t *testing.T) {
	s := store.New()
	for i := range 3 {
		if _, at, e := s.Register(text("M", i)); e != api.OK {
			t.Fatalf("Register: error %d at %d", e, at)
		}
	}
	f := s.Families()[0]
	tables, ok := audit.Tables(f)
	if !ok || len(tables) != 3 {
		t.Fatalf("P25.1: %d tables, %v", len(tables), ok)
	}
	for i, got := range tables {
		want, _ := s.Table("M", i+1)
		if !reflect.DeepEqual(got, want) {
			t.Errorf("P25.1: the table %d: %+v", i, got)
		}
	}
	// Only the texts have a say.
	f.Name, f.Versions[0].N = "X", 9
	if tables, ok := audit.Tables(f); !ok || len(tables) != 3 {
		t.Errorf("P25.1: %d tables, %v", len(tables), ok)
	}
	if tables, ok := audit.Tables(api.Family{}); !ok || len(tables) != 0 {
		t.Errorf("P25.1: no versions: %d tables, %v", len(tables), ok)
	}
	for _, bad := range []string{"", "M ;", "M DEFINITIONS ::= BEGIN A ::= B END"} {
		f.Versions[2].Text = bad
		if tables, ok := audit.Tables(f); ok || tables != nil {
			t.Errorf("P25.1: the text %q: %d tables, %v", bad, len(tables), ok)
		}
	}
}

func TestFamiliesOfAStore(t *testing.T) {
	s := store.New()
	for _, name := range []string{"Q", "B", "Z", "Ba"} {
		for i := range 8 {
			s.Register(text(name, i/2*2))
			if got := audit.Check(s.Families()); len(got) != 0 {
				t.Errorf("consequence: %v", got)
			}
		}
	}
}
