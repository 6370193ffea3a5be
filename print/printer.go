package print

import (
	"strconv"

	"ogham/api"
)

// printer writes a valid module.
type printer struct {
	writer
	m api.Module
}

func (p *printer) module() {
	p.put(p.m.Name, " DEFINITIONS ", tagging(p.m.Tagging), " TAGS ::= BEGIN")
	for i, name := range p.m.Names {
		if p.full {
			return
		}
		p.put("\n", name, " ::= ")
		p.node(p.m.Types[i])
	}
	p.put("\nEND\n")
}

func tagging(t int) string {
	switch t {
	case api.Implicit:
		return "IMPLICIT"
	case api.Automatic:
		return "AUTOMATIC"
	}
	return "EXPLICIT"
}

// node writes the type of a node. Each one writes something, so that a node within itself ends at the limit of the text.
func (p *printer) node(i int) {
	if p.full {
		return
	}
	n := p.m.Nodes[i]
	p.mark(n.Mark)
	switch n.Kind {
	case api.Boolean:
		p.put("BOOLEAN")
	case api.Null:
		p.put("NULL")
	case api.Integer:
		p.put("INTEGER")
		p.constraint(n.Con, " (", ")")
	case api.Octets:
		p.put("OCTET STRING")
		p.constraint(n.Con, " (SIZE (", "))")
	case api.Text:
		p.put("UTF8String")
		p.constraint(n.Con, " (SIZE (", "))")
	case api.Enumerated:
		p.put("ENUMERATED { ")
		p.items(n)
		p.put(" }")
	case api.Sequence:
		p.braced("SEQUENCE", n)
	case api.Set:
		p.braced("SET", n)
	case api.Choice:
		p.braced("CHOICE", n)
	case api.ListOf:
		p.put("SEQUENCE ")
		p.constraint(n.Con, "(SIZE (", ")) ")
		p.put("OF ")
		p.node(n.Of)
	case api.Ref:
		p.put(n.Name)
	}
}

func (p *printer) mark(m api.Mark) {
	if !m.Has {
		return
	}
	p.put("[", strconv.Itoa(m.Number), "] ")
	switch m.Mode {
	case 1:
		p.put("EXPLICIT ")
	case 2:
		p.put("IMPLICIT ")
	}
}

func (p *printer) constraint(c api.Con, open, end string) {
	if !c.Has {
		return
	}
	low, high := "MIN", "MAX"
	if c.HasLow {
		low = strconv.FormatInt(c.Low, 10)
	}
	if c.HasHigh {
		high = strconv.FormatInt(c.High, 10)
	}
	p.put(open, low)
	if low != high {
		p.put("..", high)
	}
	if c.More {
		p.put(", ...")
	}
	p.put(end)
}

// list writes n parts by one, with commas between them and with "..." behind the first root of them.
func (p *printer) list(n, root int, more bool, one func(i int)) {
	comma := ""
	for i := 0; i <= n && !p.full; i++ {
		if more && i == root {
			p.put(comma, "...")
			comma = ", "
		}
		if i < n {
			p.put(comma)
			one(i)
			comma = ", "
		}
	}
}

func (p *printer) items(n api.Node) {
	p.list(len(n.Items), n.Root, n.More, func(i int) {
		x := n.Items[i]
		p.put(x.Name)
		if x.Has {
			p.put(" (", strconv.FormatInt(x.Number, 10), ")")
		}
	})
}

// braced writes a type that has fields.
func (p *printer) braced(word string, n api.Node) {
	if len(n.Fields) == 0 && !(n.More && n.Root == 0) {
		p.put(word, " {}")
		return
	}
	p.put(word, " { ")
	p.list(len(n.Fields), n.Root, n.More, func(i int) {
		group := n.Fields[i].Group
		if group != 0 && (i == 0 || n.Fields[i-1].Group != group) {
			p.put("[[ ")
		}
		p.field(n.Fields[i])
		if group != 0 && (i == len(n.Fields)-1 || n.Fields[i+1].Group != group) {
			p.put(" ]]")
		}
	})
	p.put(" }")
}

func (p *printer) field(f api.Field) {
	p.put(f.Name, " ")
	p.node(f.Type)
	if f.Optional {
		p.put(" OPTIONAL")
	}
	if f.Has {
		p.put(" DEFAULT ", Value(f.Default))
	}
}
