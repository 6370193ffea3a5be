package syntax

import (
	"ogham/api"
)

// items reads the items of an enumerated type.
func (p *parser) items(n *api.Node) bool {
	if !p.item(n) {
		return false
	}
	n.Root = 1
	for p.Take(",") {
		if !n.More && p.Take("...") {
			n.More = true
			continue
		}
		if !p.item(n) {
			return false
		}
		if !n.More {
			n.Root++
		}
	}
	return true
}

func (p *parser) item(n *api.Node) bool {
	name, ok := p.Token(api.TokName)
	if !ok {
		return false
	}
	x := api.Item{Name: name}
	if p.Take("(") {
		x.Number, x.Has = p.Number()
		if !x.Has || !p.Want(")") {
			return false
		}
	}
	n.Items = append(n.Items, x)
	return true
}

// braced reads the fields of a sequence, a set or a choice, with their braces.
func (p *parser) braced(n *api.Node, depth int) bool {
	if !p.Want("{") {
		return false
	}
	if p.Take("}") {
		return true
	}
	more := p.Is("...")
	for !more {
		if !p.field(n, 0, depth) {
			return false
		}
		if !p.Take(",") {
			break
		}
		more = p.Is("...")
	}
	n.Root = len(n.Fields)
	if more && !p.additions(n, depth) {
		return false
	}
	return p.Want("}")
}

// additions reads "..." and what stands behind it.
func (p *parser) additions(n *api.Node, depth int) bool {
	n.More = true
	p.Skip()
	groups := 0
	for p.Take(",") {
		if !p.Take("[[") {
			if !p.field(n, 0, depth) {
				return false
			}
			continue
		}
		groups++
		if !p.group(n, groups, depth) {
			return false
		}
	}
	return true
}

// group reads the fields of a version bracket, up to its end.
func (p *parser) group(n *api.Node, group, depth int) bool {
	for {
		if !p.field(n, group, depth) {
			return false
		}
		if !p.Take(",") {
			return p.Want("]]")
		}
	}
}

func (p *parser) field(n *api.Node, group, depth int) bool {
	name, ok := p.Token(api.TokName)
	if !ok {
		return false
	}
	f := api.Field{Name: name, Group: group}
	f.Type, ok = p.node(depth + 1)
	if !ok {
		return false
	}
	if n.Kind != api.Choice {
		switch {
		case p.Take("OPTIONAL"):
			f.Optional = true
		case p.Take("DEFAULT"):
			f.Default, f.Has = p.value()
			if !f.Has {
				return false
			}
		}
	}
	n.Fields = append(n.Fields, f)
	return true
}

// value reads the value of a default.
func (p *parser) value() (api.Value, bool) {
	t := p.Now()
	switch {
	case t.Kind == api.TokNumber:
		n, ok := p.Number()
		return api.Value{Kind: api.Integer, N: n}, ok
	case t.Kind == api.TokName:
		p.Skip()
		return api.Value{Kind: api.Enumerated, B: []byte(t.Text)}, true
	case t.Kind == api.TokHex:
		b, ok := p.Hex()
		return api.Value{Kind: api.Octets, B: b}, ok
	case t.Kind == api.TokString:
		p.Skip()
		return api.Value{Kind: api.Text, B: []byte(t.Text)}, true
	case p.Take("TRUE"):
		return api.Value{Kind: api.Boolean, N: 1}, true
	case p.Take("FALSE"):
		return api.Value{Kind: api.Boolean}, true
	case p.Take("NULL"):
		return api.Value{Kind: api.Null}, true
	}
	return api.Value{}, p.Stop(api.ErrSyntax)
}
