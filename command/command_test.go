package command_test

import (
	"encoding/hex"
	"math"
	"reflect"
	"slices"
	"strings"
	"testing"

	"ogham/api"
	"ogham/command"
	"ogham/store"
)

const (
	first  = "M DEFINITIONS AUTOMATIC TAGS ::= BEGIN A ::= SEQUENCE { a INTEGER (0..7), ... } END"
	second = "M DEFINITIONS AUTOMATIC TAGS ::= BEGIN A ::= SEQUENCE { a INTEGER (0..7), ..., b BOOLEAN DEFAULT TRUE, c ENUMERATED { r, ..., g } } END"
	third  = "M DEFINITIONS AUTOMATIC TAGS ::= BEGIN A ::= SEQUENCE { a INTEGER (0..7), ..., b BOOLEAN DEFAULT TRUE, c ENUMERATED { r, ..., g, h } } B ::= UTF8String C ::= OCTET STRING END"
)

// started is a store with three versions of M.
func started(t *testing.T) *store.Store {
	t.Helper()
	s := store.New()
	for i, text := range []string{first, second, third} {
		if a := command.Do(s, api.Command{Kind: api.CmdRegister, Text: text}); !reflect.DeepEqual(a, api.Answer{N: i + 1}) {
			t.Fatalf("P24.1: CmdRegister: %+v", a)
		}
	}
	return s
}

// octets are the bytes of hexadecimal digits.
func octets(t *testing.T, digits string) []byte {
	t.Helper()
	b, err := hex.DecodeString(strings.ReplaceAll(digits, " ", ""))
	if err != nil {
		t.Fatal(err)
	}
	return b
}

func TestRegisterCheckFetchList(t *testing.T) {
	s := started(t)
	text := "M DEFINITIONS AUTOMATIC TAGS ::= BEGIN\nA ::= SEQUENCE { a INTEGER (0..7), ... }\nEND\n"
	command.Do(s, api.Command{Kind: api.CmdRegister, Text: "A1 DEFINITIONS ::= BEGIN END"})
	for i, x := range []struct {
		c    api.Command
		want api.Answer
	}{
		{api.Command{Kind: api.CmdRegister, Text: first}, api.Answer{Err: api.ErrTwice}},
		{api.Command{Kind: api.CmdRegister, Text: "M ;"}, api.Answer{Err: api.ErrToken, At: 2}},
		{api.Command{Kind: api.CmdRegister, Text: strings.Replace(third, "END", "D ::= X END", 1)}, api.Answer{Err: api.ErrNone, At: 3}},
		{api.Command{Kind: api.CmdList}, api.Answer{N: 2, Names: []string{"A1", "M"}}},
		{api.Command{Kind: api.CmdList, Module: "M"}, api.Answer{N: 3, Names: []string{"1", "2", "3"}}},
		{api.Command{Kind: api.CmdList, Module: "X"}, api.Answer{Err: api.ErrNone}},
		{api.Command{Kind: api.CmdFetch, Module: "M", Version: 1}, api.Answer{Text: text}},
		{api.Command{Kind: api.CmdFetch, Module: "A1"}, api.Answer{Text: "A1 DEFINITIONS EXPLICIT TAGS ::= BEGIN\nEND\n"}},
		{api.Command{Kind: api.CmdFetch, Module: "M", Version: 4}, api.Answer{Err: api.ErrNone}},
		{api.Command{Kind: api.CmdFetch, Module: "M", Version: -1}, api.Answer{Err: api.ErrNone}},
		{api.Command{Kind: api.CmdCheck, Module: "M", Text: third}, api.Answer{Err: api.ErrTwice}},
		{api.Command{Kind: api.CmdCheck, Module: "N", Text: third}, api.Answer{Err: api.ErrArg}},
		{api.Command{Kind: api.CmdCheck, Module: "M", Text: "M ::="}, api.Answer{Err: api.ErrSyntax, At: 2}},
		{api.Command{Kind: api.CmdCheck, Module: "M", Text: strings.Replace(third, "END", "D ::= NULL END", 1)}, api.Answer{}},
		{api.Command{}, api.Answer{Err: api.ErrArg}},
		{api.Command{Kind: 8, Module: "M"}, api.Answer{Err: api.ErrArg}},
		{api.Command{Kind: -1}, api.Answer{Err: api.ErrArg}},
	} {
		if a := command.Do(s, x.c); !reflect.DeepEqual(a, x.want) {
			t.Errorf("P24.1: row %d: %+v; want %+v", i, a, x.want)
		}
	}
	if a := command.Do(store.New(), api.Command{Kind: api.CmdList}); !reflect.DeepEqual(a, api.Answer{}) {
		t.Errorf("P24.1: CmdList on a new store: %+v", a)
	}
	for kind := range 7 {
		if a := command.Do(nil, api.Command{Kind: kind + 1}); !reflect.DeepEqual(a, api.Answer{Err: api.ErrNil}) {
			t.Errorf("P24.1: the kind %d on a nil store: %+v", kind+1, a)
		}
	}
}

func TestCodecs(t *testing.T) {
	s := started(t)
	cmd := func(kind, version, rule int, typ, text, data string) api.Command {
		return api.Command{Kind: kind, Module: "M", Version: version, Rule: rule, Type: typ, Text: text, Data: octets(t, data)}
	}
	over := func(version, rule, to, toRule int, data string) api.Command {
		c := cmd(api.CmdTranscode, version, rule, "A", "", data)
		c.To, c.ToRule = to, toRule
		return c
	}
	none := cmd(api.CmdEncode, 0, api.Der, "A", "{ a 5 }", "")
	none.Module = "X"
	for i, x := range []struct {
		c    api.Command
		want api.Answer
	}{
		// (The chapter's example has 81 01 ff behind this; but TRUE is the Default of b, which P13.2 takes as absent.)
		{cmd(api.CmdEncode, 2, api.Der, "A", "{ a 5, b TRUE }", ""), api.Answer{Data: octets(t, "30 03 80 01 05")}},
		{cmd(api.CmdEncode, 2, api.Der, "A", "{ a 5, b FALSE }", ""), api.Answer{Data: octets(t, "30 06 80 01 05 81 01 00")}},
		{cmd(api.CmdEncode, 0, api.Uper, "A", "{ a 5, c h }", ""), api.Answer{Data: octets(t, "d0 28 0c 08")}},
		{cmd(api.CmdEncode, 0, api.Uper, "A", "{ a 5 }", ""), api.Answer{Data: octets(t, "50")}},
		{none, api.Answer{Err: api.ErrNone}},
		{cmd(api.CmdEncode, 4, api.Der, "A", "{ a 5 }", ""), api.Answer{Err: api.ErrNone}},
		{cmd(api.CmdEncode, 2, api.Der, "B", `"x"`, ""), api.Answer{Err: api.ErrNone}},
		{cmd(api.CmdEncode, 2, 9, "A", "{ ; }", ""), api.Answer{Err: api.ErrToken, At: 2}},
		{cmd(api.CmdEncode, 2, 9, "A", "{ b TRUE, a 5 }", ""), api.Answer{Err: api.ErrSyntax, At: 10}},
		{cmd(api.CmdEncode, 2, 9, "A", "{ a 8 }", ""), api.Answer{Err: api.ErrValue}},
		{cmd(api.CmdEncode, 2, 9, "A", "{ a 5 }", ""), api.Answer{Err: api.ErrArg}},
		{cmd(api.CmdDecode, 1, api.Der, "A", "", "30 06 80 01 05 81 01 ff"), api.Answer{Text: "{ a 5 }", N: 1}},
		{cmd(api.CmdDecode, 1, api.Der, "A", "", "30 03 80 01 05"), api.Answer{Text: "{ a 5 }"}},
		{cmd(api.CmdDecode, 2, api.Der, "A", "", "30 06 80 01 05 81 01 00"), api.Answer{Text: "{ a 5, b FALSE }"}},
		{cmd(api.CmdDecode, 1, api.Uper, "A", "", "d0 28 0c 08"), api.Answer{Text: "{ a 5 }", N: 1}},
		{cmd(api.CmdDecode, 2, api.Uper, "A", "", "d0 28 0c 08"), api.Answer{Err: api.ErrRule}},
		{cmd(api.CmdDecode, 3, api.Uper, "A", "", "d0 28 0c 08"), api.Answer{Text: "{ a 5, c h }"}},
		{cmd(api.CmdDecode, 2, api.Der, "A", "", "30 0a 80 01 05 82 01 07 99 02 00 00"), api.Answer{Err: api.ErrRule}},
		{cmd(api.CmdDecode, 2, api.Der, "A", "", "30 06 80 01 05 81 01 ff"), api.Answer{Err: api.ErrForm}},
		{cmd(api.CmdDecode, 2, 7, "A", "", "30"), api.Answer{Err: api.ErrArg}},
		{cmd(api.CmdDecode, 9, 7, "A", "", "30"), api.Answer{Err: api.ErrNone}},
		{cmd(api.CmdDecode, 2, 7, "Z", "", "30"), api.Answer{Err: api.ErrNone}},
		{cmd(api.CmdDecode, 0, api.Der, "C", "", "04 82 0f a0"+strings.Repeat("00", 4000)), api.Answer{Err: api.ErrLimit}},
		{over(3, api.Uper, 1, api.Der, "d0 28 0c 08"), api.Answer{Data: octets(t, "30 03 80 01 05")}},
		{over(0, api.Uper, 0, api.Der, "d0 28 0c 08"), api.Answer{Data: octets(t, "30 06 80 01 05 82 01 02")}},
		{over(3, api.Uper, 2, api.Der, "d0 28 0c 08"), api.Answer{Err: api.ErrRule}},
		{over(1, api.Der, 3, api.Uper, "30 03 80 01 05"), api.Answer{Data: octets(t, "50")}},
		{over(1, api.Der, 9, api.Uper, "30 03 80 01 05"), api.Answer{Err: api.ErrNone}},
		{over(9, api.Der, 1, api.Uper, "30 03 80 01 05"), api.Answer{Err: api.ErrNone}},
		{over(1, api.Der, -1, 9, "30 03 80 01 05"), api.Answer{Err: api.ErrNone}},
		{over(1, api.Der, 1, 9, "30"), api.Answer{Err: api.ErrArg}},
		{over(1, 9, 1, api.Der, "30"), api.Answer{Err: api.ErrArg}},
		{over(1, api.Der, 1, api.Der, "30"), api.Answer{Err: api.ErrForm}},
	} {
		if a := command.Do(s, x.c); !reflect.DeepEqual(a, x.want) {
			t.Errorf("P24.1: row %d: %+v; want %+v", i, a, x.want)
		}
	}
	c := over(3, api.Uper, 2, api.Der, "50")
	c.Type = "B"
	if a := command.Do(s, c); a.Err != api.ErrNone {
		t.Errorf("P24.1: a type that the other version does not have: %+v", a)
	}
}

func TestBytes(t *testing.T) {
	for i, x := range []struct {
		c    api.Command
		want string
	}{
		{api.Command{}, "00 00 00 00 00 00 00 00 00"},
		{api.Command{Kind: 1, Version: 300, Rule: 2, To: 3, ToRule: 4, Module: "M", Type: "Ab", Text: "x", Data: []byte{0xff, 0}}, "01 82 2c 02 03 04 01 4d 02 41 62 01 78 02 ff 00"},
		{api.Command{Kind: -1, Version: math.MinInt, Rule: -5, To: -6, ToRule: -7}, "00 00 00 00 00 00 00 00 00"},
		{api.Command{Kind: math.MaxInt}, "ff ff ff ff ff ff ff ff 7f 00 00 00 00 00 00 00 00"},
	} {
		if b := command.Bytes(x.c); string(b) != string(octets(t, x.want)) {
			t.Errorf("P24.2: row %d: % x", i, b)
		}
	}
	for i, c := range []api.Command{
		{}, {Kind: 7, Version: math.MaxInt32, Rule: 2, To: 3, ToRule: 4, Module: "M", Type: "T", Text: "\xff\x00", Data: []byte("data")},
		{Text: strings.Repeat("x", api.MaxOctets), Data: make([]byte, 200)},
	} {
		b := command.Bytes(c)
		got, e := command.Take(b)
		if e != api.OK || got.Text != c.Text || string(got.Data) != string(c.Data) || got.Kind != c.Kind || got.Version != c.Version || got.Rule != c.Rule || got.To != c.To || got.ToRule != c.ToRule || got.Module != c.Module || got.Type != c.Type {
			t.Errorf("P24.2: row %d: %+v, error %d", i, got, e)
		}
		for n := range min(len(b), 100) {
			if got, e := command.Take(b[:n]); e != api.ErrShort || !reflect.DeepEqual(got, api.Command{}) {
				t.Errorf("P24.2: row %d: the first %d bytes: error %d", i, n, e)
			}
		}
		if got, e := command.Take(append(b, 0)); e != api.ErrForm || !reflect.DeepEqual(got, api.Command{}) {
			t.Errorf("P24.2: row %d: a byte more: error %d", i, e)
		}
	}
}

func TestTakeRefuses(t *testing.T) {
	for _, x := range []struct {
		b    string
		want api.Errno
	}{
		{"", api.ErrShort},
		{"80", api.ErrForm},
		{"81", api.ErrShort},
		{"88 80 80 80 00", api.ErrForm}, // 2^31
		{"87 ff ff ff 7f", api.ErrShort},
		{"00 80", api.ErrForm},
		{"00 00 00 00 00 88 80 80 80 00", api.ErrForm},
		{"00 00 00 00 00 87 ff ff ff 7f", api.ErrLimit},
		{"00 00 00 00 00 84 a2 71", api.ErrLimit}, // 70,001
		{"00 00 00 00 00 84 a2 70", api.ErrShort},
		{"00 00 00 00 00 01", api.ErrShort},
		{"00 00 00 00 00 02 41 00 00", api.ErrShort},
		{"00 00 00 00 00 00 00 00 01", api.ErrShort},
		{"00 00 00 00 00 00 00 00 00 00", api.ErrForm},
		{"00 00 00 00 00 00 00 80 00", api.ErrForm},
		{"00 00 00 00 ff ff ff ff ff ff ff ff ff ff ff", api.ErrForm},
	} {
		if c, e := command.Take(octets(t, x.b)); e != x.want || !reflect.DeepEqual(c, api.Command{}) {
			t.Errorf("P24.2: Take of %s: error %d; want %d", x.b, e, x.want)
		}
	}
}

func TestErrorsChangeNothing(t *testing.T) {
	s := started(t)
	before := s.Families()
	for kind := -1; kind < 10; kind++ {
		for _, text := range []string{"", "x ;", first, "M DEFINITIONS ::= BEGIN END"} {
			command.Do(s, api.Command{Kind: kind, Module: "M", Type: "A", Text: text, Data: []byte{1}, Version: 9, Rule: 9})
		}
	}
	if !reflect.DeepEqual(s.Families(), before) {
		t.Error("consequence: a command that returned an error changed the store")
	}
}

func TestCommandIsApart(t *testing.T) {
	b := command.Bytes(api.Command{Data: []byte{1, 2}})
	c, _ := command.Take(b)
	c.Data[0] = 9
	if b[len(b)-2] != 1 {
		t.Error("R3: the command has the bytes of its encoding")
	}
	s := started(t)
	a := command.Do(s, api.Command{Kind: api.CmdList})
	a.Names[0] = "X"
	if !slices.Equal(s.Modules(), []string{"M"}) {
		t.Error("R3: the answer has the names of the store")
	}
}
