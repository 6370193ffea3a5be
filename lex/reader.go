package lex

import (
	"strconv"
	"strings"
	"unicode/utf8"

	"ogham/api"
)

// reader is a text, and how much of it has been read.
type reader struct {
	text string
	at   int
}

// peek returns the byte that is k bytes ahead; past the end it is 0, which no token contains.
func (r *reader) peek(k int) byte {
	if r.at+k >= len(r.text) {
		return 0
	}
	return r.text[r.at+k]
}

func (r *reader) follows(s string) bool {
	return strings.HasPrefix(r.text[r.at:], s)
}

// skip passes over white space and comments.
func (r *reader) skip() {
	for {
		switch c := r.peek(0); {
		case c == ' ' || c == '\t' || c == '\n' || c == '\r':
			r.at++
		case r.follows("--"):
			r.comment()
		default:
			return
		}
	}
}

// comment passes over a comment: up to the next two hyphens, the end of the line or that of the text.
func (r *reader) comment() {
	r.at += 2
	for r.at < len(r.text) && r.peek(0) != '\n' {
		if r.follows("--") {
			r.at += 2
			return
		}
		r.at++
	}
}

// name reads a name, which two hyphens in a row end.
func (r *reader) name() (string, bool) {
	start := r.at
	for letter(r.peek(0)) || digit(r.peek(0)) || r.peek(0) == '-' && r.peek(1) != '-' {
		r.at++
	}
	s := r.text[start:r.at]
	return s, len(s) <= api.MaxName && !strings.HasSuffix(s, "-")
}

// number reads digits, with or without a sign.
func (r *reader) number() (string, bool) {
	start := r.at
	if r.peek(0) == '-' {
		r.at++
	}
	first := r.at
	for digit(r.peek(0)) {
		r.at++
	}
	s, digits := r.text[start:r.at], r.text[first:r.at]
	if digits == "" || letter(r.peek(0)) || digits[0] == '0' && s != "0" {
		return "", false
	}
	_, err := strconv.ParseInt(s, 10, 64)
	return s, err == nil
}

// hex reads a hexadecimal string and returns its digits.
func (r *reader) hex() (string, bool) {
	r.at++
	start := r.at
	for c := r.peek(0); digit(c) || 'A' <= c && c <= 'F'; c = r.peek(0) {
		r.at++
	}
	s := r.text[start:r.at]
	if len(s)%2 != 0 || !r.follows("'H") {
		return "", false
	}
	r.at += 2
	return s, true
}

// quoted reads a string and returns what it denotes.
func (r *reader) quoted() (string, bool) {
	var s strings.Builder
	r.at++
	for {
		n := strings.IndexByte(r.text[r.at:], '"')
		if n < 0 {
			return "", false
		}
		s.WriteString(r.text[r.at : r.at+n])
		r.at += n + 1
		if r.peek(0) != '"' {
			return s.String(), utf8.ValidString(s.String())
		}
		s.WriteByte('"')
		r.at++
	}
}

// signs are the signs of the language; one that begins another one stands after it.
var signs = [...]string{"::=", "...", "..", "[[", "]]", "{", "}", "[", "]", "(", ")", ",", ":"}

// sign reads a sign.
func (r *reader) sign() (string, bool) {
	for _, s := range signs {
		if r.follows(s) {
			r.at += len(s)
			return s, true
		}
	}
	return "", false
}

func letter(c byte) bool {
	return 'a' <= c && c <= 'z' || 'A' <= c && c <= 'Z'
}

func digit(c byte) bool {
	return '0' <= c && c <= '9'
}
