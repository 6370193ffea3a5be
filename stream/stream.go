// Package stream reads the tokens of a text one by one; the parsers of modules and of values have it embedded.
package stream

import (
	"strconv"

	"ogham/api"
)

// Stream is the tokens of a text, of which the last one is its end, and how many of them have been read. What reads from it stops at the first error, which stands in it with its position.
type Stream struct {
	list   []api.Token
	at     int
	reason api.Errno
	place  int
}

// New returns a stream of tokens as lex.Tokens returns them. It keeps the list.
func New(list []api.Token) Stream {
	return Stream{list: list}
}

// Now returns the token that is to be read next.
func (s *Stream) Now() api.Token {
	if s.at >= len(s.list) {
		return api.Token{Kind: api.TokEnd}
	}
	return s.list[s.at]
}

// Skip passes over the next token; nothing passes over the end.
func (s *Stream) Skip() {
	if s.Now().Kind != api.TokEnd {
		s.at++
	}
}

// Is reports whether the next token is this word or sign.
func (s *Stream) Is(text string) bool {
	t := s.Now()
	return (t.Kind == api.TokWord || t.Kind == api.TokSign) && t.Text == text
}

// Take passes over the next token if it is this word or sign, and reports whether it is.
func (s *Stream) Take(text string) bool {
	if !s.Is(text) {
		return false
	}
	s.Skip()
	return true
}

// Stop notes an error at the next token, and reports false.
func (s *Stream) Stop(e api.Errno) bool {
	return s.StopAt(s.Now().At, e)
}

// StopAt notes an error at a position, and reports false.
func (s *Stream) StopAt(at int, e api.Errno) bool {
	s.reason, s.place = e, at
	return false
}

// Stopped returns the error that was noted, and its position.
func (s *Stream) Stopped() (int, api.Errno) {
	return s.place, s.reason
}

// Want passes over this word or sign, and reports whether it is the next token.
func (s *Stream) Want(text string) bool {
	return s.Take(text) || s.Stop(api.ErrSyntax)
}

// Token passes over a token of this kind and returns its text, and whether it is the next one.
func (s *Stream) Token(kind int) (string, bool) {
	t := s.Now()
	if t.Kind != kind {
		return "", s.Stop(api.ErrSyntax)
	}
	s.Skip()
	return t.Text, true
}

// Number passes over a number and returns it, and whether it is the next token.
func (s *Stream) Number() (int64, bool) {
	t, ok := s.Token(api.TokNumber)
	if !ok {
		return 0, false
	}
	n, err := strconv.ParseInt(t, 10, 64)
	if err != nil {
		return 0, s.Stop(api.ErrSyntax)
	}
	return n, true
}

// Hex passes over a hexadecimal string and returns its bytes, and whether it is the next token.
func (s *Stream) Hex() ([]byte, bool) {
	digits, ok := s.Token(api.TokHex)
	var b []byte
	for k := 0; k+1 < len(digits); k += 2 {
		b = append(b, nibble(digits[k])<<4|nibble(digits[k+1]))
	}
	return b, ok
}

// nibble returns what a hexadecimal digit denotes.
func nibble(c byte) byte {
	if c >= 'A' {
		return c - 'A' + 10
	}
	return c - '0'
}
