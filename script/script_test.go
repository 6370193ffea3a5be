package script_test

import (
	"math/rand"
	"reflect"
	"strings"
	"testing"

	"ogham/api"
	"ogham/command"
	"ogham/octets"
	"ogham/script"
)

const module = "M DEFINITIONS AUTOMATIC TAGS ::= BEGIN A ::= SEQUENCE { a INTEGER (0..7), ... } END"

// packed is the script of these commands.
func packed(l ...api.Command) []byte {
	var b []byte
	for _, c := range l {
		x := command.Bytes(c)
		b = octets.Join(b, octets.Groups(uint64(len(x))), x)
	}
	return b
}

func commands() []api.Command {
	return []api.Command{
		{Kind: api.CmdList},
		{Kind: api.CmdRegister, Text: module},
		{Kind: api.CmdRegister, Text: module},
		{Kind: api.CmdRegister, Text: "M ;"},
		{Kind: api.CmdList},
		{Kind: api.CmdList, Module: "M"},
		{Kind: api.CmdFetch, Module: "M"},
		{Kind: api.CmdEncode, Module: "M", Type: "A", Rule: api.Der, Text: "{ a 5 }"},
		{Kind: api.CmdDecode, Module: "M", Type: "A", Rule: api.Uper, Data: []byte{0x50}},
		{Kind: 99},
	}
}

const lines = "0 0 0 0 0 0\n0 0 1 0 0 0\n8 0 0 0 0 0\n6 2 0 0 0 0\n0 0 1 1 0 0\n0 0 1 1 0 0\n0 0 0 0 84 0\n0 0 0 0 0 5\n0 0 0 0 7 0\n1 0 0 0 0 0\n"

func TestDay(t *testing.T) {
	d := script.New()
	if d.Store() == nil || len(d.Store().Modules()) != 0 {
		t.Error("P26.1: a new day")
	}
	other := script.New()
	for i, c := range commands() {
		want := command.Do(other.Store(), c)
		if got := d.Do(c); !reflect.DeepEqual(got, want) {
			t.Errorf("P26.1: command %d: %+v; want %+v", i, got, want)
		}
	}
	if !reflect.DeepEqual(d.Store().Families(), other.Store().Families()) || len(d.Store().Modules()) != 1 {
		t.Error("P26.1: the store of the day")
	}
	if d.Store() != d.Store() {
		t.Error("P26.1: two stores of one day")
	}
}

func TestRaw(t *testing.T) {
	d, other := script.New(), script.New()
	for i, c := range commands() {
		want := other.Do(c)
		if got := d.Raw(command.Bytes(c)); !reflect.DeepEqual(got, want) {
			t.Errorf("P26.1: command %d: %+v; want %+v", i, got, want)
		}
	}
	b := command.Bytes(api.Command{Kind: api.CmdList})
	for _, x := range []struct {
		b    []byte
		want api.Errno
	}{{nil, api.ErrShort}, {[]byte{0x80}, api.ErrForm}, {b[:len(b)-1], api.ErrShort}, {append(b, 0), api.ErrForm}, {[]byte{0, 0, 0, 0, 0, 0x84, 0xa2, 0x71}, api.ErrLimit}, {make([]byte, 9), api.ErrArg}} {
		if got := d.Raw(x.b); !reflect.DeepEqual(got, api.Answer{Err: x.want}) {
			t.Errorf("P26.1: Raw of % x: %+v", x.b, got)
		}
	}
}

func TestNilDay(t *testing.T) {
	var d *script.Day
	if got := d.Do(api.Command{Kind: api.CmdList}); !reflect.DeepEqual(got, api.Answer{Err: api.ErrNil}) {
		t.Errorf("P26.1: Do: %+v", got)
	}
	for _, b := range [][]byte{nil, command.Bytes(api.Command{Kind: api.CmdList})} {
		if got := d.Raw(b); !reflect.DeepEqual(got, api.Answer{Err: api.ErrNil}) {
			t.Errorf("P26.1: Raw: %+v", got)
		}
	}
	if d.Store() != nil {
		t.Error("P26.1: the store of a nil day")
	}
	if got := (&script.Day{}).Do(api.Command{Kind: api.CmdList}); got.Err != api.ErrNil {
		t.Errorf("R1: a day without a store: %+v", got)
	}
}

func TestDecode(t *testing.T) {
	l := commands()
	got := script.Decode(packed(l...))
	if len(got) != len(l) {
		t.Fatalf("P26.2: %d commands", len(got))
	}
	for i := range l {
		if got[i].Kind != l[i].Kind || got[i].Text != l[i].Text || string(got[i].Data) != string(l[i].Data) {
			t.Errorf("P26.2: command %d: %+v", i, got[i])
		}
	}
	one := packed(api.Command{Kind: 2})
	for _, x := range []struct {
		b    []byte
		want int
	}{
		{nil, 0}, {[]byte{0}, 0}, {[]byte{0, 9}, 0}, {[]byte{0x80}, 0}, {[]byte{0x80, 1, 7}, 0}, {[]byte{1}, 0}, {[]byte{1, 0x80}, 1}, {[]byte{2, 1}, 0},
		{octets.Join(one, one), 2}, {octets.Join(one, []byte{0}, one), 1}, {octets.Join(one, []byte{2, 1, 1}, one), 3}, {octets.Join(one, []byte{99}, one), 1},
		{octets.Join(one, []byte{0x81}), 1}, {octets.Join(one, []byte{0x81, 0x80, 0x80, 0x80, 0x80, 0x80, 0x80, 0x80, 0x80, 0x01}), 1},
		{[]byte{0xff, 0xff, 0xff, 0xff, 0xff, 0xff, 0xff, 0xff, 0x7f, 1}, 0},
		{[]byte(strings.Repeat(string(one), 99)), 99}, {[]byte(strings.Repeat(string(one), 100)), 100}, {[]byte(strings.Repeat(string(one), 101)), 100}, {[]byte(strings.Repeat("\x01\x80", 300)), 100},
	} {
		if got := script.Decode(x.b); len(got) != x.want {
			t.Errorf("P26.2: Decode of %.60x: %d commands; want %d", x.b, len(got), x.want)
		}
	}
	if got := script.Decode(octets.Join([]byte{1, 0x80}, one)); !reflect.DeepEqual(got[0], api.Command{}) || got[1].Kind != 2 {
		t.Errorf("P26.2: behind a command that is not valid: %+v", got)
	}
}

func TestRun(t *testing.T) {
	if got := script.Run(nil); len(got) != 0 {
		t.Errorf("P26.2: Run of no bytes: %q", got)
	}
	if got := script.Run([]byte{1, 0x80}); string(got) != "1 0 0 0 0 0\n" {
		t.Errorf("P26.2: Run of the example: %q", got)
	}
	for range 2 { // each time on a new day
		if got := script.Run(packed(commands()...)); string(got) != lines {
			t.Errorf("P26.2: Run: %s", got)
		}
	}
}

func TestAnyBytesAreAScript(t *testing.T) {
	rng := rand.New(rand.NewSource(3))
	base := packed(commands()...)
	for range 2000 {
		b := append([]byte(nil), base...)
		for range 1 + rng.Intn(4) {
			b[rng.Intn(len(b))] = byte(rng.Intn(256))
		}
		kept := string(b)
		first, second := script.Run(b), script.Run(b)
		if string(first) != string(second) || string(b) != kept {
			t.Fatalf("consequence: % x", b)
		}
		if n := strings.Count(string(first), "\n"); n != len(script.Decode(b)) {
			t.Fatalf("P26.2: %d lines of %d commands", n, len(script.Decode(b)))
		}
	}
}
