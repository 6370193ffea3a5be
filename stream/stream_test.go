package stream_test

import (
	"testing"

	"ogham/api"
	"ogham/stream"
)

func TestStream(t *testing.T) {
	end := api.Token{Kind: api.TokEnd, At: 9}
	s := stream.New([]api.Token{{Kind: api.TokSign, Text: "{"}, {Kind: api.TokString, Text: "{"}, {Kind: api.TokWord, Text: "END"}, end})
	if !s.Is("{") || s.Is("END") || s.Take("}") || !s.Take("{") {
		t.Error("a sign")
	}
	if s.Is("{") || s.Take("{") || s.Now().Kind != api.TokString {
		t.Error("a string is no sign")
	}
	s.Skip()
	if !s.Take("END") || s.Now() != end || s.Take("") {
		t.Error("the end")
	}
	s.Skip()
	if s.Now() != end {
		t.Error("behind the end")
	}
	var none stream.Stream
	none.Skip()
	if none.Take("{") || none.Now().Kind != api.TokEnd {
		t.Error("no tokens")
	}
}
