package command

import (
	"bytes"
	"math"

	"ogham/api"
	"ogham/octets"
)

// Bytes returns the encoding of a command.
func Bytes(c api.Command) []byte {
	var b []byte
	for _, n := range [...]int{c.Kind, c.Version, c.Rule, c.To, c.ToRule} {
		b = append(b, octets.Groups(uint64(max(n, 0)))...)
	}
	for _, s := range [...]string{c.Module, c.Type, c.Text} {
		b = append(b, octets.Groups(uint64(len(s)))...)
		b = append(b, s...)
	}
	b = append(b, octets.Groups(uint64(len(c.Data)))...)
	return append(b, c.Data...)
}

// Take returns the command whose encoding is b.
func Take(b []byte) (api.Command, api.Errno) {
	t := taker{reader{rest: b}}
	c := t.command()
	if t.fault == api.OK && len(t.rest) > 0 {
		t.fault = api.ErrForm
	}
	if t.fault != api.OK {
		return api.Command{}, t.fault
	}
	return c, api.OK
}

// reader reads the parts of a command, up to the first fault.
type reader struct {
	rest  []byte
	fault api.Errno
}

// number reads a number.
func (r *reader) number() int {
	if r.fault != api.OK {
		return 0
	}
	v, n, e := octets.TakeGroups(r.rest)
	if e == api.OK && v > math.MaxInt32 {
		e = api.ErrForm
	}
	if e != api.OK {
		r.fault = e
		return 0
	}
	r.rest = r.rest[n:]
	return int(v)
}

// text reads a length and so many bytes.
func (r *reader) text() []byte {
	n := r.number()
	switch {
	case n > api.MaxOctets:
		r.fault = api.ErrLimit
		return nil
	case n > len(r.rest):
		r.fault = api.ErrShort
		return nil
	}
	s := bytes.Clone(r.rest[:n])
	r.rest = r.rest[n:]
	return s
}

// taker reads commands.
type taker struct {
	reader
}

func (t *taker) command() api.Command {
	var c api.Command
	c.Kind = t.number()
	c.Version = t.number()
	c.Rule = t.number()
	c.To = t.number()
	c.ToRule = t.number()
	c.Module = string(t.text())
	c.Type = string(t.text())
	c.Text = string(t.text())
	c.Data = t.text()
	return c
}
