package note

import (
	"slices"
	"strconv"

	"ogham/api"
	"ogham/same"
	"ogham/stream"
)

// reader reads a value. Its methods report whether they could; if not, the first reason and its position stand in it.
type reader struct {
	stream.Stream
	t      api.Table
	reason api.Errno
	place  int
}

// stop notes an error at the next token.
func (r *reader) stop(e api.Errno) bool {
	r.reason, r.place = e, r.Now().At
	return false
}

// want passes over this word or sign.
func (r *reader) want(text string) bool {
	return r.Take(text) || r.stop(api.ErrSyntax)
}

// token passes over a token of this kind and returns its text.
func (r *reader) token(kind int) (string, bool) {
	s := r.Now()
	if s.Kind != kind {
		return "", r.stop(api.ErrSyntax)
	}
	r.Skip()
	return s.Text, true
}

// value reads a value of type i that is nested in depth others.
func (r *reader) value(i, depth int) (api.Value, bool) {
	if depth > api.MaxDepth {
		return api.Value{}, r.stop(api.ErrLimit)
	}
	if i < 0 || i >= len(r.t.Types) {
		return api.Value{}, r.stop(api.ErrSyntax)
	}
	x := r.t.Types[i]
	v := api.Value{Kind: x.Kind}
	ok := false
	switch x.Kind {
	case api.Boolean:
		ok = r.boolean(&v)
	case api.Null:
		ok = r.want("NULL")
	case api.Integer:
		ok = r.number(&v)
	case api.Enumerated:
		ok = r.item(x, &v)
	case api.Octets:
		ok = r.octets(&v)
	case api.Text:
		ok = r.text(&v)
	case api.ListOf:
		ok = r.list(x, &v, depth)
	case api.Choice:
		ok = r.choice(x, &v, depth)
	case api.Sequence, api.Set:
		ok = r.fields(x, &v, depth)
	default:
		ok = r.stop(api.ErrSyntax)
	}
	return v, ok
}

func (r *reader) boolean(v *api.Value) bool {
	if r.Take("TRUE") {
		v.N = 1
		return true
	}
	return r.want("FALSE")
}

func (r *reader) number(v *api.Value) bool {
	s, ok := r.token(api.TokNumber)
	if !ok {
		return false
	}
	n, err := strconv.ParseInt(s, 10, 64)
	v.N = n
	return err == nil
}

func (r *reader) item(x api.Type, v *api.Value) bool {
	j := -1
	if s := r.Now(); s.Kind == api.TokName {
		j = slices.IndexFunc(x.Items, func(item api.Item) bool { return item.Name == s.Text })
	}
	if j < 0 {
		return r.stop(api.ErrSyntax)
	}
	r.Skip()
	v.N = x.Items[j].Number
	return true
}

func (r *reader) octets(v *api.Value) bool {
	s, ok := r.token(api.TokHex)
	for k := 0; k+1 < len(s); k += 2 {
		o, err := strconv.ParseUint(s[k:k+2], 16, 8)
		v.B = append(v.B, byte(o))
		ok = ok && err == nil
	}
	return ok
}

func (r *reader) text(v *api.Value) bool {
	s, ok := r.token(api.TokString)
	v.B = []byte(s)
	return ok
}

func (r *reader) list(x api.Type, v *api.Value, depth int) bool {
	return r.braced(func() bool {
		e, ok := r.value(x.Of, depth+1)
		v.L = append(v.L, e)
		return ok
	})
}

func (r *reader) choice(x api.Type, v *api.Value, depth int) bool {
	j, ok := r.field(x, 0)
	if !ok || !r.want(":") {
		return false
	}
	inner, ok := r.value(x.Fields[j].Type, depth+1)
	v.N, v.L = int64(j), []api.Value{inner}
	return ok
}

// fields reads the fields of a sequence or a set, in their order.
func (r *reader) fields(x api.Type, v *api.Value, depth int) bool {
	v.L = make([]api.Value, len(x.Fields))
	next := 0
	return r.braced(func() bool {
		j, ok := r.field(x, next)
		if !ok {
			return false
		}
		next = j + 1
		inner, ok := r.value(x.Fields[j].Type, depth+1)
		if ok && !(x.Fields[j].Has && same.Values(inner, x.Fields[j].Default)) {
			v.L[j] = inner
		}
		return ok
	})
}

// field reads the name of a field that is the one with the index from, or comes after it.
func (r *reader) field(x api.Type, from int) (int, bool) {
	j := -1
	if s := r.Now(); s.Kind == api.TokName {
		j = slices.IndexFunc(x.Fields, func(f api.Field) bool { return f.Name == s.Text })
	}
	if j < from {
		return 0, r.stop(api.ErrSyntax)
	}
	r.Skip()
	return j, true
}

// braced reads parts by one, within braces and separated by commas.
func (r *reader) braced(one func() bool) bool {
	if !r.want("{") {
		return false
	}
	if r.Take("}") {
		return true
	}
	for {
		if !one() {
			return false
		}
		if !r.Take(",") {
			return r.want("}")
		}
	}
}
