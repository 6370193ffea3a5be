package derin

import (
	"bytes"
	"slices"

	"ogham/api"
	"ogham/octets"
	"ogham/table"
	"ogham/wild"
)

// decoder reads values. It finds the one that b can only be; whether b is its encoding is left to the encoder.
type decoder struct {
	elements
	t    api.Table
	left *int // how many more values there may be
}

// inside returns a decoder of the contents of an element.
func (d *decoder) inside(contents []byte) *decoder {
	return &decoder{elements: elements{contents}, t: d.t, left: d.left}
}

// spend counts n values within another one, and reports whether there may be so many.
func (d *decoder) spend(n int) bool {
	if n > *d.left {
		return false
	}
	*d.left -= n
	return true
}

// value reads a value of type i that has this depth.
func (d *decoder) value(i, depth int) (api.Value, bool) {
	if i < 0 || i >= len(d.t.Types) || depth > api.MaxDepth+1 {
		return api.Value{}, false
	}
	x := d.t.Types[i]
	if x.Kind == api.Choice && len(x.Tags) == 0 {
		return d.choice(x, depth)
	}
	contents, ok := d.peel(x.Tags, x.Kind == api.Choice || x.Kind == api.Sequence || x.Kind == api.Set || x.Kind == api.ListOf)
	if !ok {
		return api.Value{}, false
	}
	inner := d.inside(contents)
	switch x.Kind {
	case api.Choice:
		v, ok := inner.choice(x, depth)
		return v, ok && inner.done()
	case api.Sequence:
		return inner.sequence(x, depth)
	case api.Set:
		return inner.set(x, depth)
	case api.ListOf:
		return inner.list(x, depth)
	}
	return leaf(x, contents)
}

// leaf returns the value that consists of no others and has these contents.
func leaf(x api.Type, contents []byte) (api.Value, bool) {
	v := api.Value{Kind: x.Kind}
	switch x.Kind {
	case api.Boolean:
		if len(contents) != 1 {
			return api.Value{}, false
		}
		v.N = int64(contents[0] & 1)
	case api.Integer, api.Enumerated:
		n, e := octets.TakeSigned(contents)
		if e != api.OK {
			return api.Value{}, false
		}
		v.N = n
		if x.Kind == api.Enumerated && !slices.ContainsFunc(x.Items, func(item api.Item) bool { return item.Number == n }) {
			v.Kind, v.Rule = api.Unknown, api.Der
		}
	case api.Octets, api.Text:
		v.B = bytes.Clone(contents)
	}
	return v, true
}

func (d *decoder) list(x api.Type, depth int) (api.Value, bool) {
	v := api.Value{Kind: x.Kind}
	for !d.done() {
		if !d.spend(1) {
			return api.Value{}, false
		}
		e, ok := d.value(x.Of, depth+1)
		if !ok {
			return api.Value{}, false
		}
		v.L = append(v.L, e)
	}
	return v, true
}

func (d *decoder) choice(x api.Type, depth int) (api.Value, bool) {
	tag, ok := d.tag()
	if !ok {
		return api.Value{}, false
	}
	j := d.field(x, tag)
	if j < 0 {
		b, ok := d.whole()
		return api.Value{Kind: api.Unknown, Rule: api.Der, B: b}, ok
	}
	if !d.spend(1) {
		return api.Value{}, false
	}
	inner, ok := d.value(x.Fields[j].Type, depth+1)
	return api.Value{Kind: x.Kind, N: int64(j), L: []api.Value{inner}}, ok
}

// field returns the index of the field of a Choice or a Set whose value begins with a tag, or -1.
func (d *decoder) field(x api.Type, tag api.Tag) int {
	return slices.IndexFunc(x.Fields, func(f api.Field) bool { return d.begins(f, tag) })
}

// begins reports whether a value of a field may begin with a tag.
func (d *decoder) begins(f api.Field, tag api.Tag) bool {
	return slices.Contains(table.Begins(d.t, f.Type), tag) || wild.Is(d.t.Types, f.Type)
}

func (d *decoder) sequence(x api.Type, depth int) (api.Value, bool) {
	if !d.spend(len(x.Fields)) {
		return api.Value{}, false
	}
	v := api.Value{Kind: x.Kind, L: make([]api.Value, len(x.Fields))}
	for j, f := range x.Fields {
		tag, ok := d.tag()
		if !ok || !d.begins(f, tag) {
			continue
		}
		if v.L[j], ok = d.value(f.Type, depth+1); !ok {
			return api.Value{}, false
		}
	}
	for !d.done() {
		if !d.addition(&v) {
			return api.Value{}, false
		}
	}
	return v, true
}

func (d *decoder) set(x api.Type, depth int) (api.Value, bool) {
	if !d.spend(len(x.Fields)) {
		return api.Value{}, false
	}
	v := api.Value{Kind: x.Kind, L: make([]api.Value, len(x.Fields))}
	for !d.done() {
		tag, ok := d.tag()
		if !ok {
			return api.Value{}, false
		}
		j := d.field(x, tag)
		if j < 0 {
			ok = d.addition(&v)
		} else if v.L[j].Kind == 0 {
			v.L[j], ok = d.value(x.Fields[j].Type, depth+1)
		} else {
			ok = false
		}
		if !ok {
			return api.Value{}, false
		}
	}
	return v, true
}

// addition reads an element that belongs to no field.
func (d *decoder) addition(v *api.Value) bool {
	b, ok := d.whole()
	v.Rule, v.More = api.Der, append(v.More, api.Raw{B: b})
	return ok
}
