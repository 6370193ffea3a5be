package order_test

import (
	"reflect"
	"slices"
	"testing"

	"ogham/api"
	"ogham/order"
	"ogham/syntax"
	"ogham/table"
)

// made is the table of a module whose first name, A, is this type.
func made(t *testing.T, text string) api.Table {
	t.Helper()
	m, at, e := syntax.Parse("M DEFINITIONS EXPLICIT TAGS ::= BEGIN A ::= " + text + " END")
	if e != api.OK {
		t.Fatalf("Parse of %s: error %d at %d", text, e, at)
	}
	x, _, e := table.Make(m)
	if e != api.OK {
		t.Fatalf("Make of %s: error %d", text, e)
	}
	return x
}

func TestLeast(t *testing.T) {
	for _, x := range []struct {
		text string
		want api.Tag
	}{
		{"NULL", api.Tag{Number: 5}},
		{"[3] NULL", api.Tag{Class: 2, Number: 3}},
		{"CHOICE { a [3] NULL, b CHOICE { c UTF8String, d BOOLEAN, e [0] NULL }, f INTEGER }", api.Tag{Number: 1}},
		{"CHOICE { a [3] NULL, ..., b [1] NULL }", api.Tag{Class: 2, Number: 1}},
		{"[7] CHOICE { a NULL }", api.Tag{Class: 2, Number: 7}},
		{"CHOICE { ... }", api.Tag{}},
	} {
		if got := order.Least(made(t, x.text), 0); got != x.want {
			t.Errorf("P11.1: Least of %s: %v", x.text, got)
		}
	}
	if got := order.Least(api.Table{}, 3); got != (api.Tag{}) {
		t.Errorf("P11.1: Least of no type: %v", got)
	}
}

func TestFields(t *testing.T) {
	for _, x := range []struct {
		text string
		want []int
	}{
		{"SET { a [1] NULL, b [0] NULL }", []int{1, 0}},
		{"SEQUENCE { a [1] NULL, b [0] NULL }", []int{0, 1}},
		{"CHOICE { a [1] NULL, b [0] NULL, c SEQUENCE OF NULL, d BOOLEAN }", []int{3, 2, 1, 0}},
		{"SET { a [9] NULL, b CHOICE { x [20] NULL, y [4] NULL }, c [5] NULL, ..., d [1] NULL, e [0] NULL }", []int{1, 2, 0, 3, 4}},
		{"SET { b CHOICE { x [20] NULL }, c [15] NULL }", []int{1, 0}},
		{"CHOICE { ..., a [1] NULL, b [0] NULL }", []int{0, 1}},
		{"SEQUENCE { a [1] NULL, ..., b [0] NULL }", []int{0, 1}},
		{"SET {}", nil},
		{"ENUMERATED { a, b }", nil},
		{"SEQUENCE OF NULL", nil},
		{"INTEGER", nil},
	} {
		if got := order.Fields(made(t, x.text), 0); !slices.Equal(got, x.want) {
			t.Errorf("P11.1: Fields of %s: %v; want %v", x.text, got, x.want)
		}
	}
}

func TestItems(t *testing.T) {
	for _, x := range []struct {
		text string
		want []int
	}{
		{"ENUMERATED { a, b, c }", []int{0, 1, 2}},
		{"ENUMERATED { a (5), b, c (-3), d }", []int{2, 1, 3, 0}},
		{"ENUMERATED { a (9), b (8), ..., c (1), d (2), e (20) }", []int{1, 0, 2, 3, 4}},
		{"SET { a NULL }", nil},
		{"NULL", nil},
	} {
		if got := order.Items(made(t, x.text), 0); !slices.Equal(got, x.want) {
			t.Errorf("P11.1: Items of %s: %v; want %v", x.text, got, x.want)
		}
	}
}

func TestSlots(t *testing.T) {
	const fields = "{ a [0] NULL, b [1] NULL, ..., c [2] NULL, [[ d [3] NULL, e [4] NULL ]], [[ f [5] NULL ]], [[ g [6] NULL, h [7] NULL ]], i [8] NULL, j [9] NULL }"
	for _, x := range []struct {
		text string
		want [][]int
	}{
		{"SEQUENCE " + fields, [][]int{{2}, {3, 4}, {5}, {6, 7}, {8}, {9}}},
		{"SET " + fields, [][]int{{2}, {3, 4}, {5}, {6, 7}, {8}, {9}}},
		{"CHOICE " + fields, [][]int{{2}, {3}, {4}, {5}, {6}, {7}, {8}, {9}}},
		{"SEQUENCE { ..., [[ a [0] NULL, b [1] NULL ]] }", [][]int{{0, 1}}},
		{"SEQUENCE { a NULL, ... }", nil},
		{"SEQUENCE { a NULL }", nil},
		{"SEQUENCE OF NULL", nil},
		{"ENUMERATED { a, ..., b }", nil},
	} {
		if got := order.Slots(made(t, x.text), 0); !reflect.DeepEqual(got, x.want) {
			t.Errorf("P11.2: Slots of %s: %v; want %v", x.text, got, x.want)
		}
	}
	slots := order.Slots(made(t, "SEQUENCE "+fields), 0)
	if l := append(slots[0], 99); l[1] != 99 || !slices.Equal(slots[1], []int{3, 4}) {
		t.Error("R3: two slots share memory")
	}
}

func TestEachFieldOccursOnce(t *testing.T) {
	x := made(t, "SET { a [9] NULL, b CHOICE { x [20] NULL, y [4] NULL }, c [5] NULL, ..., [[ d [1] NULL, e [0] NULL ]], f BOOLEAN }")
	all := order.Fields(x, 0)
	slices.Sort(all)
	if !slices.Equal(all, []int{0, 1, 2, 3, 4, 5}) {
		t.Errorf("consequence: %v", all)
	}
}

func TestStrangeTables(t *testing.T) {
	loop := api.Table{Types: []api.Type{
		{Kind: api.Set, Root: 7, Fields: []api.Field{{Type: 0}, {Type: -1}, {Type: 9}, {Type: 1}}},
		{Kind: api.Choice, Root: -7, Fields: []api.Field{{Type: 1, Group: 1}, {Type: 1, Group: 1}}},
		{Kind: api.Enumerated, Root: 7, Items: []api.Item{{Number: 2}, {Number: 1}}},
	}}
	for i := -1; i <= len(loop.Types); i++ {
		order.Least(loop, i)
		order.Fields(loop, i)
		order.Items(loop, i)
		order.Slots(loop, i)
	}
	if got := order.Items(api.Table{}, 0); len(got) != 0 {
		t.Errorf("P11.1: Items of no type: %v", got)
	}
}
