package cross_test

import (
	"encoding/hex"
	"strings"
	"testing"

	"ogham/api"
	"ogham/cross"
	"ogham/der"
	"ogham/derin"
	"ogham/note"
	"ogham/same"
	"ogham/syntax"
	"ogham/table"
	"ogham/uper"
	"ogham/uperin"
)

// made is the table of a module with these assignments.
func made(t *testing.T, assignments string) api.Table {
	t.Helper()
	m, at, e := syntax.Parse("M DEFINITIONS AUTOMATIC TAGS ::= BEGIN " + assignments + " END")
	if e != api.OK {
		t.Fatalf("Parse of %s: error %d at %d", assignments, e, at)
	}
	x, _, e := table.Make(m)
	if e != api.OK {
		t.Fatalf("Make of %s: error %d", assignments, e)
	}
	return x
}

func noted(t *testing.T, x api.Table, text string) api.Value {
	t.Helper()
	v, at, e := note.Parse(x, 0, text)
	if e != api.OK {
		t.Fatalf("%s: error %d at %d", text, e, at)
	}
	return v
}

func encoded(t *testing.T, x api.Table, rule int, text string) []byte {
	t.Helper()
	b, e := cross.Encode(x, 0, rule, noted(t, x, text))
	if e != api.OK {
		t.Fatalf("%s by the rule %d: error %d", text, rule, e)
	}
	return b
}

const (
	first  = "A ::= SEQUENCE { a INTEGER (0..7), ... }"
	second = "A ::= SEQUENCE { a INTEGER (0..7), ..., b BOOLEAN DEFAULT TRUE, c ENUMERATED { r, ..., g } }"
)

func TestEncodeAndDecode(t *testing.T) {
	x := made(t, second)
	v := noted(t, x, "{ a 5, b FALSE, c g }")
	want := map[int][]byte{}
	want[api.Der], _ = der.Encode(x, 0, v)
	want[api.Uper], _ = uper.Encode(x, 0, v)
	for rule, b := range want {
		if got, e := cross.Encode(x, 0, rule, v); e != api.OK || string(got) != string(b) || len(b) == 0 {
			t.Errorf("P22.1: Encode by the rule %d: % x, error %d", rule, got, e)
		}
		if got, e := cross.Decode(x, 0, rule, b); e != api.OK || !same.Values(got, v) {
			t.Errorf("P22.1: Decode by the rule %d: %+v, error %d", rule, got, e)
		}
		for _, bad := range []api.Value{{}, {Kind: api.Sequence, L: []api.Value{{Kind: api.Integer, N: 1}, {}, {Kind: api.Unknown, Rule: 3 - rule, N: 7}}}} {
			_, want := der.Encode(x, 0, bad)
			if rule == api.Uper {
				_, want = uper.Encode(x, 0, bad)
			}
			if got, e := cross.Encode(x, 0, rule, bad); len(got) != 0 || e != want || e == api.OK {
				t.Errorf("P22.1: Encode by the rule %d: error %d; want %d", rule, e, want)
			}
		}
		_, want := derin.Decode(x, 9, b)
		if rule == api.Uper {
			_, want = uperin.Decode(x, 9, b)
		}
		if _, e := cross.Decode(x, 9, rule, b); e != want || e == api.OK {
			t.Errorf("P22.1: Decode by the rule %d: error %d; want %d", rule, e, want)
		}
	}
	for _, rule := range []int{0, 3, -1, 1 << 40} {
		if b, e := cross.Encode(x, 0, rule, v); len(b) != 0 || e != api.ErrArg {
			t.Errorf("P22.1: Encode by the rule %d: error %d", rule, e)
		}
		if got, e := cross.Decode(x, 0, rule, want[api.Der]); got.Kind != 0 || e != api.ErrArg {
			t.Errorf("P22.1: Decode by the rule %d: error %d", rule, e)
		}
	}
}

func TestOver(t *testing.T) {
	one, two := made(t, first), made(t, second)
	for _, x := range []struct{ v, want string }{
		{"{ a 5, b FALSE, c g }", "{ a 5 }"},
		{"{ a 5 }", "{ a 5 }"},
		{"{ a 0, c r }", "{ a 0 }"},
	} {
		for _, rule := range []int{api.Der, api.Uper} {
			for _, to := range []int{api.Der, api.Uper} {
				data := encoded(t, two, rule, x.v)
				if got, e := cross.Over(two, 0, rule, one, 0, to, data); e != api.OK || string(got) != string(encoded(t, one, to, x.want)) {
					t.Errorf("P22.2: %s over to the first version, from %d to %d: % x, error %d", x.v, rule, to, got, e)
				}
				// What the first version reads of it is the same.
				if got, e := cross.Over(one, 0, rule, one, 0, to, data); e != api.OK || string(got) != string(encoded(t, one, to, x.want)) {
					t.Errorf("P22.2: %s read by the first version, from %d to %d: % x, error %d", x.v, rule, to, got, e)
				}
				back := encoded(t, one, rule, x.want)
				if got, e := cross.Over(one, 0, rule, two, 0, to, back); e != api.OK || string(got) != string(encoded(t, two, to, x.want)) {
					t.Errorf("P22.2: %s over to the second version, from %d to %d: % x, error %d", x.want, rule, to, got, e)
				}
				there, e1 := cross.Over(two, 0, rule, two, 0, to, data)
				again, e2 := cross.Over(two, 0, to, two, 0, rule, there)
				if e1 != api.OK || e2 != api.OK || string(again) != string(data) {
					t.Errorf("consequence: %s there and back: % x and % x, errors %d and %d", x.v, data, again, e1, e2)
				}
			}
		}
	}
	if b := encoded(t, two, api.Der, "{ a 5 }"); hex.EncodeToString(b) != "3003800105" {
		t.Errorf("P22.1: % x", b)
	}
}

func TestOverRefuses(t *testing.T) {
	one, two := made(t, "A ::= SEQUENCE { a ENUMERATED { r, ... } OPTIONAL }"), made(t, "A ::= SEQUENCE { a ENUMERATED { r, ..., g } OPTIONAL }")
	data := map[int][]byte{api.Der: encoded(t, two, api.Der, "{ a g }"), api.Uper: encoded(t, two, api.Uper, "{ a g }")}
	other := made(t, "A ::= NULL")
	narrow := made(t, "A ::= INTEGER (0..3)")
	for i, x := range []struct {
		a       api.Table
		i, rule int
		b       api.Table
		k, to   int
		data    []byte
		want    api.Errno
	}{
		{two, 9, 0, two, 9, api.Der, nil, api.ErrArg},
		{two, 9, api.Der, two, 9, 3, nil, api.ErrArg},
		{two, 9, -1, two, 9, 3, nil, api.ErrArg},
		{two, 9, api.Der, two, 9, api.Der, nil, api.ErrNone},
		{two, 0, api.Der, two, 9, api.Der, make([]byte, api.MaxOctets+1), api.ErrLimit},
		{two, 0, api.Uper, two, 9, api.Der, nil, api.ErrForm},
		{two, 0, api.Der, two, 9, api.Der, data[api.Uper], api.ErrForm},
		{two, 0, api.Der, two, 9, api.Der, data[api.Der], api.ErrExt},
		{two, 0, api.Der, other, 0, api.Uper, data[api.Der], api.ErrExt},
		{two, 0, api.Der, one, 0, api.Uper, data[api.Der], api.ErrRule},
		{two, 0, api.Der, one, 0, api.Der, data[api.Der], api.ErrRule},
		{one, 0, api.Uper, two, 0, api.Uper, data[api.Uper], api.ErrRule},
		{made(t, "A ::= INTEGER"), 0, api.Der, narrow, 0, api.Der, []byte{2, 1, 4}, api.ErrValue},
	} {
		if got, e := cross.Over(x.a, x.i, x.rule, x.b, x.k, x.to, x.data); len(got) != 0 || e != x.want {
			t.Errorf("P22.2: row %d: % x, error %d; want %d", i, got, e, x.want)
		}
	}
}

func TestOverTooLong(t *testing.T) {
	list := made(t, "A ::= SEQUENCE (SIZE (0..4990)) OF SEQUENCE OF SEQUENCE { a BOOLEAN }")
	many := "{ { { a TRUE } }" + strings.Repeat(", {}", 1900) + " }"
	data := encoded(t, list, api.Uper, many)
	if _, e := cross.Over(list, 0, api.Uper, list, 0, api.Der, data); e != api.OK {
		t.Errorf("P22.2: error %d", e)
	}
	octets := made(t, "A ::= SEQUENCE (SIZE (0..4990)) OF OCTET STRING (SIZE (13))")
	v := api.Value{Kind: api.ListOf}
	for range 4990 {
		v.L = append(v.L, api.Value{Kind: api.Octets, B: make([]byte, 13)})
	}
	data, e := cross.Encode(octets, 0, api.Uper, v)
	if e != api.OK {
		t.Fatalf("P22.1: error %d", e)
	}
	if _, e := cross.Over(octets, 0, api.Uper, octets, 0, api.Der, data); e != api.ErrLimit {
		t.Errorf("P22.2: too long by the other rule: error %d", e)
	}
}
