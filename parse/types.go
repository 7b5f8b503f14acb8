package parse

import "gimlet/api"

func (c *cursor) ty() api.Part {
	return c.within(func() api.Part { return c.right(api.TypeFun, c.typePair, "->", c.ty) })
}

func (c *cursor) typePair() api.Part { return c.right(api.TypePair, c.typeName, "*", c.typePair) }

// typeName reads a type, and the Names behind it, each of which is one of what comes ahead of it.
func (c *cursor) typeName() api.Part {
	p := c.smallType()
	for c.word().Kind == api.WordName {
		p = api.Part{Kind: api.TypeName, S: c.takeKind(api.WordName).S, At: p.At, L: []api.Part{p}}
	}
	return p
}

func (c *cursor) smallType() api.Part {
	w := c.takeStart(aType)
	switch w.Kind {
	case api.WordVar:
		return named(api.TypeVar, w)
	case api.WordName:
		return named(api.TypeName, w)
	}
	l := c.list(c.ty, ",", mostTypes)
	c.takeMark(")")
	if len(l) == 1 {
		return l[0]
	}
	return api.Part{Kind: api.TypeName, S: c.takeKind(api.WordName).S, At: w.At, L: l}
}
