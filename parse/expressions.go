package parse

import "gimlet/api"

func (c *cursor) seq() api.Part {
	return c.within(func() api.Part { return c.right(api.ExpSeq, c.one, ";", c.seq) })
}

func (c *cursor) one() api.Part {
	switch {
	case c.stands("let"):
		return c.letIn()
	case c.stands("fun"):
		return c.fun()
	case c.stands("if"):
		return c.choice()
	case c.stands("match"):
		return c.cases("match", api.ExpMatch)
	case c.stands("try"):
		return c.cases("try", api.ExpTry)
	}
	return c.set()
}

func (c *cursor) letIn() api.Part {
	at := c.takeMark("let").At
	p := c.let(api.ExpLet, api.ExpRec)
	p.At = at
	p.L = append(p.L, c.after("in", c.seq))
	return p
}

func (c *cursor) fun() api.Part {
	at := c.word().At
	return api.Part{Kind: api.ExpFun, At: at, L: []api.Part{c.after("fun", c.pat), c.after("->", c.seq)}}
}

func (c *cursor) choice() api.Part {
	at := c.word().At
	return api.Part{Kind: api.ExpIf, At: at, L: []api.Part{c.after("if", c.seq), c.after("then", c.one), c.after("else", c.one)}}
}

// cases reads a part that has Cases.
func (c *cursor) cases(mark string, kind int) api.Part {
	at := c.word().At
	l := []api.Part{c.after(mark, c.seq)}
	c.takeMark("with")
	c.skip("|")
	return api.Part{Kind: kind, At: at, L: append(l, c.list(c.oneCase, "|", anyNumber)...)}
}

func (c *cursor) oneCase() api.Part {
	pattern := c.pat()
	return both(api.PartCase, pattern, c.after("->", c.seq))
}

func (c *cursor) set() api.Part { return c.right(api.ExpSet, c.pair, ":=", c.one) }

func (c *cursor) pair() api.Part { return c.right(api.ExpPair, c.comparison, ",", c.pair) }

// comparison reads at most one operator: what it makes is no part of another one.
func (c *cursor) comparison() api.Part {
	p := c.sum()
	for _, s := range []string{"=", "<", "<="} {
		if c.skip(s) {
			return operation(s, p, c.sum())
		}
	}
	return p
}

func (c *cursor) sum() api.Part { return c.left(c.product, "+", "-") }

func (c *cursor) product() api.Part { return c.left(c.prefixed, "*", "/", "mod") }

// left reads parts with operators between them, of which each one takes all that comes ahead of it.
func (c *cursor) left(read func() api.Part, operators ...string) api.Part {
	p := read()
more:
	for {
		for _, s := range operators {
			if c.skip(s) {
				p = operation(s, p, read())
				continue more
			}
		}
		return p
	}
}

func operation(s string, a, b api.Part) api.Part {
	p := both(api.ExpOp, a, b)
	p.S = s
	return p
}

func (c *cursor) prefixed() api.Part {
	return c.within(func() api.Part {
		switch at := c.word().At; {
		case c.skip("-"):
			return api.Part{Kind: api.ExpNeg, At: at, L: []api.Part{c.prefixed()}}
		case c.skip("!"):
			return api.Part{Kind: api.ExpGet, At: at, L: []api.Part{c.prefixed()}}
		}
		return c.applied()
	})
}

func (c *cursor) applied() api.Part {
	w := c.word()
	if c.skip("raise") {
		return api.Part{Kind: api.ExpRaise, At: w.At, L: []api.Part{c.atom()}}
	}
	p := c.atom()
	if w.Kind == api.WordCon {
		if c.may(anAtom) {
			p.L = []api.Part{c.atom()}
		}
		return p
	}
	for c.may(anAtom) {
		p = both(api.ExpCall, p, c.atom())
	}
	return p
}

func (c *cursor) atom() api.Part {
	w := c.takeStart(anAtom)
	switch w.Kind {
	case api.WordInt:
		return api.Part{Kind: api.ExpInt, N: w.N, At: w.At}
	case api.WordText:
		return named(api.ExpText, w)
	case api.WordName:
		return named(api.ExpVar, w)
	case api.WordCon:
		return named(api.ExpCon, w)
	}
	switch w.S {
	case "true", "false":
		return api.Part{Kind: api.ExpBool, N: truth(w), At: w.At}
	case "begin":
		return c.before("end", c.seq)
	}
	return c.bracket(api.ExpUnit, w, c.seq)
}
