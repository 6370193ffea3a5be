package note

import (
	"slices"

	"ogham/api"
	"ogham/same"
	"ogham/stream"
)

// reader reads a value. Its methods report whether they could; if not, the stream has the first error.
type reader struct {
	stream.Stream
	t api.Table
}

// value reads a value of type i that is nested in depth others.
func (r *reader) value(i, depth int) (api.Value, bool) {
	if depth > api.MaxDepth {
		return api.Value{}, r.Stop(api.ErrLimit)
	}
	if i < 0 || i >= len(r.t.Types) {
		return api.Value{}, r.Stop(api.ErrSyntax)
	}
	x := r.t.Types[i]
	v := api.Value{Kind: x.Kind}
	ok := false
	switch x.Kind {
	case api.Boolean:
		ok = r.boolean(&v)
	case api.Null:
		ok = r.Want("NULL")
	case api.Integer:
		v.N, ok = r.Number()
	case api.Enumerated:
		ok = r.item(x, &v)
	case api.Octets:
		v.B, ok = r.Hex()
	case api.Text:
		ok = r.text(&v)
	case api.ListOf:
		ok = r.list(x, &v, depth)
	case api.Choice:
		ok = r.choice(x, &v, depth)
	case api.Sequence, api.Set:
		ok = r.fields(x, &v, depth)
	default:
		ok = r.Stop(api.ErrSyntax)
	}
	return v, ok
}

func (r *reader) boolean(v *api.Value) bool {
	if r.Take("TRUE") {
		v.N = 1
		return true
	}
	return r.Want("FALSE")
}

func (r *reader) item(x api.Type, v *api.Value) bool {
	j := -1
	if s := r.Now(); s.Kind == api.TokName {
		j = slices.IndexFunc(x.Items, func(item api.Item) bool { return item.Name == s.Text })
	}
	if j < 0 {
		return r.Stop(api.ErrSyntax)
	}
	r.Skip()
	v.N = x.Items[j].Number
	return true
}

func (r *reader) text(v *api.Value) bool {
	s, ok := r.Token(api.TokString)
	v.B = []byte(s)
	return ok
}

func (r *reader) list(x api.Type, v *api.Value, depth int) bool {
	return r.braced(func() bool {
		e, ok := r.value(x.Of, depth+1)
		v.L = append(v.L, e)
		return ok
	})
}

func (r *reader) choice(x api.Type, v *api.Value, depth int) bool {
	j, ok := r.field(x, 0)
	if !ok || !r.Want(":") {
		return false
	}
	inner, ok := r.value(x.Fields[j].Type, depth+1)
	v.N, v.L = int64(j), []api.Value{inner}
	return ok
}

// fields reads the fields of a sequence or a set, in their order.
func (r *reader) fields(x api.Type, v *api.Value, depth int) bool {
	v.L = make([]api.Value, len(x.Fields))
	next := 0
	return r.braced(func() bool {
		j, ok := r.field(x, next)
		if !ok {
			return false
		}
		next = j + 1
		inner, ok := r.value(x.Fields[j].Type, depth+1)
		if ok && !(x.Fields[j].Has && same.Values(inner, x.Fields[j].Default)) {
			v.L[j] = inner
		}
		return ok
	})
}

// field reads the name of a field that is the one with the index from, or comes after it.
func (r *reader) field(x api.Type, from int) (int, bool) {
	j := -1
	if s := r.Now(); s.Kind == api.TokName {
		j = slices.IndexFunc(x.Fields, func(f api.Field) bool { return f.Name == s.Text })
	}
	if j < from {
		return 0, r.Stop(api.ErrSyntax)
	}
	r.Skip()
	return j, true
}

// braced reads parts by one, within braces and separated by commas.
func (r *reader) braced(one func() bool) bool {
	if !r.Want("{") {
		return false
	}
	if r.Take("}") {
		return true
	}
	for {
		if !one() {
			return false
		}
		if !r.Take(",") {
			return r.Want("}")
		}
	}
}
