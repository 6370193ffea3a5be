package syntax

import (
	"ogham/api"
)

// stream is the tokens of a text, of which the last one is its end, and how many of them have been read.
type stream struct {
	list []api.Token
	at   int
}

// now returns the token that is to be read next.
func (s *stream) now() api.Token {
	return s.list[s.at]
}

// skip passes over the next token; nothing passes over the end.
func (s *stream) skip() {
	if s.now().Kind != api.TokEnd {
		s.at++
	}
}

// is reports whether the next token is this word or sign.
func (s *stream) is(text string) bool {
	t := s.now()
	return (t.Kind == api.TokWord || t.Kind == api.TokSign) && t.Text == text
}

// take passes over the next token if it is this word or sign, and reports whether it is.
func (s *stream) take(text string) bool {
	if !s.is(text) {
		return false
	}
	s.skip()
	return true
}
