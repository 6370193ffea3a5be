package syntax

import (
	"ogham/api"
)

// node reads a type that is nested in depth others, and returns the index of its node.
func (p *parser) node(depth int) (int, bool) {
	if !p.begins() {
		return 0, p.Stop(api.ErrSyntax)
	}
	if depth > api.MaxDepth || len(p.m.Nodes) == api.MaxNodes {
		return 0, p.Stop(api.ErrLimit)
	}
	// The place is taken at once: the nodes within this one come after it.
	i := len(p.m.Nodes)
	p.m.Nodes = append(p.m.Nodes, api.Node{})
	var n api.Node
	if !p.mark(&n.Mark) || !p.base(&n, depth) {
		return 0, false
	}
	p.m.Nodes[i] = n
	return i, true
}

// begins reports whether a type can begin with the next token.
func (p *parser) begins() bool {
	t := p.Now()
	switch t.Kind {
	case api.TokType:
		return true
	case api.TokSign:
		return t.Text == "["
	case api.TokWord:
		switch t.Text {
		case "BOOLEAN", "NULL", "UTF8String", "INTEGER", "OCTET", "ENUMERATED", "SEQUENCE", "SET", "CHOICE":
			return true
		}
	}
	return false
}

func (p *parser) mark(m *api.Mark) bool {
	if !p.Take("[") {
		return true
	}
	at := p.Now().At
	v, ok := p.Number()
	if !ok {
		return false
	}
	if v < 0 || v > api.MaxTag {
		return p.StopAt(at, api.ErrTag)
	}
	m.Has, m.Number = true, int(v)
	if !p.Want("]") {
		return false
	}
	switch {
	case p.Take("EXPLICIT"):
		m.Mode = 1
	case p.Take("IMPLICIT"):
		m.Mode = 2
	}
	return true
}

func (p *parser) base(n *api.Node, depth int) bool {
	switch {
	case p.Now().Kind == api.TokType:
		n.Kind, n.Name = api.Ref, p.Now().Text
		p.Skip()
		return true
	case p.Take("BOOLEAN"):
		n.Kind = api.Boolean
		return true
	case p.Take("NULL"):
		n.Kind = api.Null
		return true
	case p.Take("INTEGER"):
		n.Kind = api.Integer
		return p.valueRange(&n.Con)
	case p.Take("UTF8String"):
		n.Kind = api.Text
		return p.size(&n.Con)
	case p.Take("OCTET"):
		n.Kind = api.Octets
		return p.Want("STRING") && p.size(&n.Con)
	case p.Take("ENUMERATED"):
		n.Kind = api.Enumerated
		return p.Want("{") && p.items(n) && p.Want("}")
	case p.Take("SEQUENCE"):
		return p.sequence(n, depth)
	case p.Take("SET"):
		n.Kind = api.Set
		return p.braced(n, depth)
	case p.Take("CHOICE"):
		n.Kind = api.Choice
		return p.braced(n, depth)
	}
	return p.Stop(api.ErrSyntax)
}

// sequence reads what stands behind the word SEQUENCE.
func (p *parser) sequence(n *api.Node, depth int) bool {
	if p.Is("{") {
		n.Kind = api.Sequence
		return p.braced(n, depth)
	}
	n.Kind = api.ListOf
	if !p.size(&n.Con) || !p.Want("OF") {
		return false
	}
	of, ok := p.node(depth + 1)
	n.Of = of
	return ok
}

func (p *parser) valueRange(c *api.Con) bool {
	return !p.Take("(") || p.bounds(c) && p.Want(")")
}

func (p *parser) size(c *api.Con) bool {
	return !p.Take("(") || p.Want("SIZE") && p.Want("(") && p.bounds(c) && p.Want(")") && p.Want(")")
}

// bounds reads the bounds of a constraint, and the sign that they may be gone beyond.
func (p *parser) bounds(c *api.Con) bool {
	c.Has = true
	if !p.Take("MIN") && !p.bound(&c.Low, &c.HasLow) {
		return false
	}
	if !p.Take("..") {
		c.High, c.HasHigh = c.Low, c.HasLow
	} else if !p.Take("MAX") && !p.bound(&c.High, &c.HasHigh) {
		return false
	}
	if p.Take(",") {
		c.More = true
		return p.Want("...")
	}
	return true
}

func (p *parser) bound(v *int64, has *bool) bool {
	n, ok := p.Number()
	*v, *has = n, ok
	return ok
}
