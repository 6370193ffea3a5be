package stream_test

import (
	"testing"

	"ogham/api"
	"ogham/stream"
)

func TestStream(t *testing.T) {
	end := api.Token{Kind: api.TokEnd, At: 9}
	s := stream.New([]api.Token{{Kind: api.TokSign, Text: "{"}, {Kind: api.TokString, Text: "{"}, {Kind: api.TokWord, Text: "END"}, end})
	if !s.Is("{") || s.Is("END") || s.Take("}") || !s.Take("{") {
		t.Error("a sign")
	}
	if s.Is("{") || s.Take("{") || s.Now().Kind != api.TokString {
		t.Error("a string is no sign")
	}
	s.Skip()
	if !s.Take("END") || s.Now() != end || s.Take("") {
		t.Error("the end")
	}
	s.Skip()
	if s.Now() != end {
		t.Error("behind the end")
	}
	var none stream.Stream
	none.Skip()
	if none.Take("{") || none.Now().Kind != api.TokEnd {
		t.Error("no tokens")
	}
}

func TestHex(t *testing.T) {
	s := stream.New([]api.Token{{Kind: api.TokHex, Text: "09AF"}, {Kind: api.TokHex}, {Kind: api.TokName, Text: "AB"}, {Kind: api.TokEnd}})
	if b, ok := s.Hex(); string(b) != "\x09\xaf" || !ok {
		t.Errorf("% x, %v", b, ok)
	}
	if b, ok := s.Hex(); len(b) != 0 || !ok {
		t.Errorf("no digits: % x, %v", b, ok)
	}
	if b, ok := s.Hex(); len(b) != 0 || ok {
		t.Errorf("a name: % x, %v", b, ok)
	}
}

func TestStopped(t *testing.T) {
	s := stream.New([]api.Token{{Kind: api.TokNumber, Text: "-5", At: 1}, {Kind: api.TokName, Text: "a", At: 4}, {Kind: api.TokEnd, At: 5}})
	if at, e := s.Stopped(); at != 0 || e != api.OK {
		t.Errorf("a new stream: error %d at %d", e, at)
	}
	if n, ok := s.Number(); n != -5 || !ok {
		t.Errorf("a number: %d, %v", n, ok)
	}
	if n, ok := s.Number(); n != 0 || ok {
		t.Errorf("no number: %d, %v", n, ok)
	}
	if at, e := s.Stopped(); at != 4 || e != api.ErrSyntax {
		t.Errorf("no number: error %d at %d", e, at)
	}
	long := stream.New([]api.Token{{Kind: api.TokNumber, Text: "9223372036854775808", At: 3}, {Kind: api.TokEnd, At: 22}})
	if n, ok := long.Number(); n != 0 || ok {
		t.Errorf("a number of more than 64 bits: %d, %v", n, ok)
	}
	if _, e := long.Stopped(); e != api.ErrSyntax {
		t.Errorf("a number of more than 64 bits: error %d", e)
	}
	if text, ok := s.Token(api.TokType); text != "" || ok {
		t.Errorf("another kind: %q, %v", text, ok)
	}
	if text, ok := s.Token(api.TokName); text != "a" || !ok {
		t.Errorf("a name: %q, %v", text, ok)
	}
	if s.Want("{") || s.StopAt(9, api.ErrTag) || s.Stop(api.ErrLimit) {
		t.Error("an error is no success")
	}
	if at, e := s.Stopped(); at != 5 || e != api.ErrLimit {
		t.Errorf("the last error: error %d at %d", e, at)
	}
}
