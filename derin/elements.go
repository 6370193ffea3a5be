package derin

import (
	"bytes"

	"ogham/api"
	"ogham/tlv"
)

// elements reads elements that follow one another.
type elements struct {
	rest []byte
}

func (e *elements) done() bool {
	return len(e.rest) == 0
}

// tag returns the tag of the next element, and whether there is one.
func (e *elements) tag() (api.Tag, bool) {
	tag, _, _, _, errno := tlv.TakeHead(e.rest)
	return tag, errno == api.OK
}

// take reads the next element, which must have this tag and be constructed or not, and returns its contents.
func (e *elements) take(tag api.Tag, made bool) ([]byte, bool) {
	gotTag, gotMade, contents, n, errno := tlv.Take(e.rest)
	if errno != api.OK || gotTag != tag || gotMade != made {
		return nil, false
	}
	e.rest = e.rest[n:]
	return contents, true
}

// whole reads the next element and returns all its octets.
func (e *elements) whole() ([]byte, bool) {
	_, _, _, n, errno := tlv.Take(e.rest)
	if errno != api.OK {
		return nil, false
	}
	b := bytes.Clone(e.rest[:n])
	e.rest = e.rest[n:]
	return b, true
}

// peel reads the next element, with the first of the tags, whose contents are one element with the next tag, and so on, and returns the contents of the last one, which is constructed or not.
func (e *elements) peel(tags []api.Tag, made bool) ([]byte, bool) {
	if len(tags) == 0 {
		return nil, false
	}
	contents, ok := e.take(tags[0], made || len(tags) > 1)
	if !ok || len(tags) == 1 {
		return contents, ok
	}
	inner := elements{contents}
	contents, ok = inner.peel(tags[1:], made)
	return contents, ok && inner.done()
}
