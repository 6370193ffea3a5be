package lex_test

import (
	"slices"
	"strconv"
	"strings"
	"testing"

	"ogham/api"
	"ogham/lex"
)

// shown writes tokens as kind:text@position.
func shown(l []api.Token) string {
	var out []string
	for _, x := range l {
		out = append(out, strconv.Itoa(x.Kind)+":"+x.Text+"@"+strconv.Itoa(x.At))
	}
	return strings.Join(out, " ")
}

func TestWord(t *testing.T) {
	words := strings.Fields("DEFINITIONS EXPLICIT IMPLICIT AUTOMATIC TAGS BEGIN END BOOLEAN INTEGER ENUMERATED NULL OCTET STRING UTF8String SEQUENCE SET CHOICE OF OPTIONAL DEFAULT SIZE MIN MAX TRUE FALSE")
	for _, w := range words {
		if !lex.Word(w) {
			t.Errorf("P4.1: %s is no word", w)
		}
		if l, _, e := lex.Tokens(w); e != api.OK || len(l) != 2 || l[0] != (api.Token{Kind: api.TokWord, Text: w}) {
			t.Errorf("P4.1: the token %s: %v, error %d", w, l, e)
		}
		for _, other := range []string{strings.ToLower(w), w + "X", w + "-a", w[1:]} {
			if lex.Word(other) && !slices.Contains(words, other) {
				t.Errorf("P4.1: %s is a word", other)
			}
		}
	}
	for _, s := range []string{"", " ", "END ", "Sequence", "UTF8STRING", "PRIVATE"} {
		if lex.Word(s) {
			t.Errorf("P4.1: %q is a word", s)
		}
	}
}

func TestTokens(t *testing.T) {
	for _, x := range []struct{ text, want string }{
		{"A ::= INTEGER", "1:A@0 6:::=@2 5:INTEGER@6 0:@13"},
		{"", "0:@0"},
		{" \t\r\n", "0:@4"},
		{"abc aBC Abc a1-b2", "2:abc@0 2:aBC@4 1:Abc@8 2:a1-b2@12 0:@17"},
		{"ENDx END-x END", "1:ENDx@0 1:END-x@5 5:END@11 0:@14"},
		{"A Z a z AaZz zZaA", "1:A@0 1:Z@2 2:a@4 2:z@6 1:AaZz@8 2:zZaA@13 0:@17"},
		{"a--b", "2:a@0 0:@4"},
		{"a--b--c", "2:a@0 2:c@6 0:@7"},
		{"a-1--b\nc", "2:a-1@0 2:c@7 0:@8"},
		{"a---b", "2:a@0 0:@5"},
		{"--", "0:@2"},
		{"---", "0:@3"},
		{"----a", "2:a@4 0:@5"},
		{"-- x - y\n-5", "3:-5@9 0:@11"},
		{"--\xff\x00'\"--1", "3:1@8 0:@9"},
		{"-- a\rb\nc", "2:c@7 0:@8"},
		{"0 5 -1 10", "3:0@0 3:5@2 3:-1@4 3:10@7 0:@9"},
		{"9223372036854775807 -9223372036854775808", "3:9223372036854775807@0 3:-9223372036854775808@20 0:@40"},
		{"5-3", "3:5@0 3:-3@1 0:@3"},
		{"5--3", "3:5@0 0:@4"},
		{"a-5", "2:a-5@0 0:@3"},
		{"0..7", "3:0@0 6:..@1 3:7@3 0:@4"},
		{"1...", "3:1@0 6:...@1 0:@4"},
		{".....", "6:...@0 6:..@3 0:@5"},
		{"''H '0AF9'H'00'Hx", "4:@0 4:0AF9@4 4:00@11 2:x@16 0:@17"},
		{`""`, "7:@0 0:@2"},
		{`"a""b" """"`, `7:a"b@0 7:"@7 0:@11`},
		{"\"--\n\xc3\xa9\x00\"x", "7:--\n\xc3\xa9\x00@0 2:x@8 0:@9"},
		{"::=:::=", "6:::=@0 6::@3 6:::=@4 0:@7"},
		{"::", "6::@0 6::@1 0:@2"},
		{"[[[]]]", "6:[[@0 6:[@2 6:]]@3 6:]@5 0:@6"},
		{"[ []", "6:[@0 6:[@2 6:]@3 0:@4"},
		{"{}(),:", "6:{@0 6:}@1 6:(@2 6:)@3 6:,@4 6::@5 0:@6"},
		{strings.Repeat("n", api.MaxName), "2:" + strings.Repeat("n", api.MaxName) + "@0 0:@60"},
	} {
		l, at, e := lex.Tokens(x.text)
		if shown(l) != x.want || at != 0 || e != api.OK {
			t.Errorf("P4.1: Tokens(%q): %s, at %d, error %d; want %s", x.text, shown(l), at, e, x.want)
		}
	}
}

func TestNoTokens(t *testing.T) {
	for _, x := range []struct {
		text string
		at   int
	}{
		{"a-", 0}, {"b a- c", 2}, {"a-b-\n", 0}, {"a-,", 0}, {" A-", 1},
		{strings.Repeat("n", api.MaxName+1), 0}, {"x " + strings.Repeat("N", 100), 2},
		{"-", 0}, {"5 - 3", 2}, {"-a", 0}, {"-0", 0}, {"-05", 0}, {"00", 0}, {"1 01", 2}, {"5a", 0}, {"-5a", 0}, {"5-a", 1}, {"0x", 0},
		{"9223372036854775808", 0}, {"-9223372036854775809", 0}, {"99999999999999999999", 0},
		{".", 0}, {"....", 3}, {"=", 0}, {":=", 1}, {"a _", 2}, {"a_b", 1}, {"\x00", 0}, {"a\x0b", 1}, {"\xc3\xa9", 0}, {"a;", 1}, {"'0'", 0},
		{"'", 0}, {"a '0", 2}, {"'0'H", 0}, {"'000'H", 0}, {"'00'", 0}, {"'00'h", 0}, {"'00H", 0}, {"'0a'H", 0}, {"'0 0'H", 0}, {"'00'B", 0}, {"'0G'H", 0},
		{`"`, 0}, {`a "b`, 2}, {`"a""`, 0}, {`"""`, 0}, {"\"\xff\"", 0}, {"x\"\xc3\"", 1}, {"a ; \xff", 2}, {"|", 0},
	} {
		l, at, e := lex.Tokens(x.text)
		if len(l) != 0 || at != x.at || e != api.ErrToken {
			t.Errorf("P4.2: Tokens(%q): %s, at %d, error %d; want at %d", x.text, shown(l), at, e, x.at)
		}
	}
}

func TestLongText(t *testing.T) {
	if l, at, e := lex.Tokens(strings.Repeat(" ", api.MaxText-1) + "a"); len(l) != 2 || at != 0 || e != api.OK {
		t.Errorf("P4.2: a text of MaxText bytes: %d tokens, at %d, error %d", len(l), at, e)
	}
	for _, s := range []string{strings.Repeat(" ", api.MaxText+1), strings.Repeat(";", api.MaxText+1)} {
		if l, at, e := lex.Tokens(s); len(l) != 0 || at != 0 || e != api.ErrLimit {
			t.Errorf("P4.2: a text that is too long: %d tokens, at %d, error %d", len(l), at, e)
		}
	}
}

// TestBetweenTokens holds the consequence: the tokens follow one another, and the rest is white space and comments.
func TestBetweenTokens(t *testing.T) {
	text := "M DEFINITIONS::=BEGIN--x--A::=SEQUENCE{a[1]INTEGER(-1..5,...)DEFAULT 3,b OCTET STRING DEFAULT'0A'H,...,[[c NULL]]} END"
	l, _, e := lex.Tokens(text)
	if e != api.OK {
		t.Fatalf("P4.1: error %d", e)
	}
	end := 0
	for _, x := range l[:len(l)-1] {
		if between := strings.TrimSpace(text[end:x.At]); between != "" && !strings.HasPrefix(between, "--") {
			t.Errorf("consequence: between the tokens: %q", between)
		}
		end = x.At + len(x.Text)
		if x.Kind == api.TokHex {
			end += 3
		} else if !strings.HasPrefix(text[x.At:], x.Text) {
			t.Errorf("consequence: %q does not stand at %d", x.Text, x.At)
		}
	}
}
