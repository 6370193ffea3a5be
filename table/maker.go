package table

import (
	"bytes"
	"slices"
	"unicode/utf8"

	"ogham/api"
	"ogham/bounds"
	"ogham/refs"
	"ogham/tags"
)

// parts is the types that were made so far.
type parts struct {
	types []api.Type
}

// maker makes the types of a module, whose references have no cycle.
type maker struct {
	parts
	m api.Module
}

// named makes the type of a name, nested in depth others, and returns its index.
func (k *maker) named(name, depth int) (int, api.Errno) {
	if name < 0 || name >= len(k.m.Types) {
		return 0, api.ErrNone
	}
	return k.node(k.m.Types[name], depth)
}

// node makes the type of a node.
func (k *maker) node(node, depth int) (int, api.Errno) {
	if node < 0 || node >= len(k.m.Nodes) {
		return 0, api.ErrArg
	}
	n := k.m.Nodes[node]
	var i int
	var e api.Errno
	if n.Kind == api.Ref {
		i, e = k.named(refs.Find(k.m, n.Name), depth)
	} else {
		i, e = k.fresh(n, depth)
	}
	if e == api.OK && n.Mark.Has {
		e = k.wrap(i, n.Mark.Number, k.mode(i, n.Mark.Mode))
	}
	if e != api.OK {
		return 0, e
	}
	return i, api.OK
}

// fresh appends the type of a node that is no Ref, without its mark, and makes its parts.
func (k *maker) fresh(n api.Node, depth int) (int, api.Errno) {
	if depth > api.MaxDepth || len(k.types) == api.MaxNodes {
		return 0, api.ErrLimit
	}
	i := len(k.types)
	t := api.Type{Kind: n.Kind}
	if n.Kind != api.Choice {
		t.Tags = []api.Tag{tags.Universal(n.Kind)}
	}
	k.types = append(k.types, t)
	e := api.OK
	switch n.Kind {
	case api.Boolean, api.Null:
	case api.Integer, api.Octets, api.Text:
		e = k.constrain(i, n.Con)
	case api.ListOf:
		if e = k.constrain(i, n.Con); e == api.OK {
			// The element is made ahead of the store: its types may move the others.
			var of int
			of, e = k.node(n.Of, depth+1)
			k.types[i].Of = of
		}
	case api.Enumerated:
		e = k.items(i, n)
	case api.Sequence, api.Set, api.Choice:
		e = k.fields(i, n, depth)
	default:
		e = api.ErrArg
	}
	return i, e
}

func (k *maker) constrain(i int, c api.Con) api.Errno {
	k.types[i].Con = c
	return bounds.Check(c, k.types[i].Kind != api.Integer)
}

// mode returns how a mark adds its tag: as it is written, or else as the module says.
func (k *maker) mode(i, written int) int {
	switch written {
	case 1:
		return api.Explicit
	case 2:
		return api.Implicit
	}
	if k.m.Tagging == api.Explicit {
		return api.Explicit
	}
	return k.automatic(i)
}

// automatic returns how a tag is added that nobody has written.
func (k *maker) automatic(i int) int {
	if len(k.types[i].Tags) == 0 {
		return api.Explicit
	}
	return api.Implicit
}

func (k *maker) wrap(i, number, mode int) api.Errno {
	wrapped, e := tags.Wrap(k.types[i].Tags, number, mode)
	if e == api.OK {
		k.types[i].Tags = wrapped
	}
	return e
}

// fields makes the fields of a type, and checks that they can be told apart.
func (k *maker) fields(i int, n api.Node, depth int) api.Errno {
	if n.Kind == api.Choice && len(n.Fields) == 0 && !n.More {
		return api.ErrBound
	}
	automatic := k.m.Tagging == api.Automatic && !slices.ContainsFunc(n.Fields, k.marked)
	var made []api.Field
	for j, f := range n.Fields {
		if slices.ContainsFunc(made, func(x api.Field) bool { return x.Name == f.Name }) {
			return api.ErrTwice
		}
		x, e := k.field(f, depth)
		if e == api.OK && automatic {
			e = k.wrap(x.Type, j, k.automatic(x.Type))
		}
		if e != api.OK {
			return e
		}
		made = append(made, x)
	}
	t := &k.types[i]
	t.Fields, t.Root, t.More = made, min(max(n.Root, 0), len(made)), n.More
	if !k.apart(*t) {
		return api.ErrTag
	}
	return api.OK
}

func (k *maker) marked(f api.Field) bool {
	return f.Type >= 0 && f.Type < len(k.m.Nodes) && k.m.Nodes[f.Type].Mark.Has
}

// field makes a field: its type and its default.
func (k *maker) field(f api.Field, depth int) (api.Field, api.Errno) {
	i, e := k.node(f.Type, depth+1)
	if e != api.OK {
		return api.Field{}, e
	}
	x := api.Field{Name: f.Name, Type: i, Optional: f.Optional, Has: f.Has, Group: f.Group}
	if f.Has {
		x.Default, e = defaultOf(k.types[i], f.Default)
	}
	return x, e
}

// defaultOf returns a default as a value of its type.
func defaultOf(t api.Type, v api.Value) (api.Value, api.Errno) {
	ok := false
	out := api.Value{Kind: t.Kind}
	switch t.Kind {
	case api.Boolean:
		out.N, ok = v.N, true
	case api.Null:
		ok = true
	case api.Integer:
		out.N, ok = v.N, bounds.Within(t.Con, v.N)
	case api.Octets:
		out.B, ok = bytes.Clone(v.B), bounds.Within(t.Con, int64(len(v.B)))
	case api.Text:
		out.B, ok = bytes.Clone(v.B), bounds.Within(t.Con, int64(len(v.B))) && utf8.Valid(v.B)
	case api.Enumerated:
		j := slices.IndexFunc(t.Items[:t.Root], func(x api.Item) bool { return x.Name == string(v.B) })
		if j >= 0 {
			out.N, ok = t.Items[j].Number, true
		}
	}
	if !ok || v.Kind != t.Kind {
		return api.Value{}, api.ErrValue
	}
	return out, api.OK
}
