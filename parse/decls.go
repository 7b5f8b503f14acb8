package parse

import (
	"gimlet/api"
	"gimlet/tree"
)

// mostTypes is how many Vars Params may have, and Tys a bracket.
const mostTypes = 64

func (c *cursor) program() []api.Part {
	var l []api.Part
	for len(c.words) > 0 {
		p := c.decl()
		// The ;; is no part of it: it has ended ahead of that, whatever stands there.
		if tree.Depth(p) > api.MaxDeep {
			throw(api.ErrNest, p.At)
		}
		c.takeMark(";;")
		l = append(l, p)
	}
	return l
}

func (c *cursor) decl() api.Part {
	var p api.Part
	first := c.takeStart(aDecl)
	switch first.S {
	case "type":
		p = c.declType()
	case "exception":
		p = c.constructor(api.DeclExn)
	case "let":
		p = c.let(api.DeclLet, api.DeclRec)
	}
	p.At = first.At
	return p
}

// declType reads a DeclType from behind its first word on.
func (c *cursor) declType() api.Part {
	l := c.params()
	p := api.Part{Kind: api.DeclType, N: len(l), S: c.takeKind(api.WordName).S}
	c.takeMark("=")
	p.L = append(l, c.list(c.ctor, "|", anyNumber)...)
	return p
}

func (c *cursor) params() []api.Part {
	switch {
	case !c.may(aParams):
		return nil
	case !c.skip("("):
		return []api.Part{c.param()}
	}
	l := c.list(c.param, ",", mostTypes)
	c.takeMark(")")
	return l
}

func (c *cursor) param() api.Part { return named(api.TypeVar, c.takeKind(api.WordVar)) }

func (c *cursor) ctor() api.Part { return c.constructor(api.PartCtor) }

// constructor reads a Con, and of what it is.
func (c *cursor) constructor(kind int) api.Part {
	p := named(kind, c.takeKind(api.WordCon))
	if c.skip("of") {
		p.L = []api.Part{c.ty()}
	}
	return p
}

// let reads what a declaration and an expression have in common, from behind its first word on: it is of the one kind, or, with Binds, of the other.
func (c *cursor) let(kind, recursive int) api.Part {
	if c.skip("rec") {
		return api.Part{Kind: recursive, L: c.list(c.bind, "and", anyNumber)}
	}
	return api.Part{Kind: kind, L: []api.Part{c.pat(), c.after("=", c.seq)}}
}

func (c *cursor) bind() api.Part {
	p := named(api.PartBind, c.takeKind(api.WordName))
	p.L = []api.Part{c.after("=", c.fun)}
	return p
}

// named returns the part that begins with a word, and has its text.
func named(kind int, w api.Word) api.Part { return api.Part{Kind: kind, S: w.S, At: w.At} }
