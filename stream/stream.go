// Package stream reads the tokens of a text one by one; the parsers of modules and of values have it embedded.
package stream

import (
	"ogham/api"
)

// Stream is the tokens of a text, of which the last one is its end, and how many of them have been read.
type Stream struct {
	list []api.Token
	at   int
}

// New returns a stream of tokens as lex.Tokens returns them. It keeps the list.
func New(list []api.Token) Stream {
	return Stream{list: list}
}

// Now returns the token that is to be read next.
func (s *Stream) Now() api.Token {
	if s.at >= len(s.list) {
		return api.Token{Kind: api.TokEnd}
	}
	return s.list[s.at]
}

// Skip passes over the next token; nothing passes over the end.
func (s *Stream) Skip() {
	if s.Now().Kind != api.TokEnd {
		s.at++
	}
}

// Is reports whether the next token is this word or sign.
func (s *Stream) Is(text string) bool {
	t := s.Now()
	return (t.Kind == api.TokWord || t.Kind == api.TokSign) && t.Text == text
}

// Take passes over the next token if it is this word or sign, and reports whether it is.
func (s *Stream) Take(text string) bool {
	if !s.Is(text) {
		return false
	}
	s.Skip()
	return true
}
