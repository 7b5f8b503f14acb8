package parse

import "gimlet/api"

func (c *cursor) pat() api.Part {
	return c.within(func() api.Part { return c.right(api.PatPair, c.conPattern, ",", c.pat) })
}

// conPattern reads a pattern that may be a Con of another one.
func (c *cursor) conPattern() api.Part {
	isCon := c.word().Kind == api.WordCon
	p := c.smallPattern()
	if isCon && c.may(aPattern) {
		p.L = []api.Part{c.smallPattern()}
	}
	return p
}

func (c *cursor) smallPattern() api.Part {
	w := c.takeStart(aPattern)
	switch w.Kind {
	case api.WordName:
		return named(api.PatVar, w)
	case api.WordInt:
		return api.Part{Kind: api.PatInt, N: w.N, At: w.At}
	case api.WordCon:
		return named(api.PatCon, w)
	}
	switch w.S {
	case "_":
		return api.Part{Kind: api.PatAny, At: w.At}
	case "-":
		return api.Part{Kind: api.PatInt, N: negative(c.takeKind(api.WordInt).N), At: w.At}
	case "true", "false":
		return api.Part{Kind: api.PatBool, N: truth(w), At: w.At}
	}
	return c.bracket(api.PatUnit, w, c.pat)
}

// bracket reads a part from behind a bracket on: the unit, if nothing stands in it.
func (c *cursor) bracket(unit int, open api.Word, read func() api.Part) api.Part {
	if c.skip(")") {
		return api.Part{Kind: unit, At: open.At}
	}
	return c.before(")", read)
}

// negative returns - n modulo 2^31: the least number is its own negative.
func negative(n int) int {
	if n == api.MinInt {
		return n
	}
	return -n
}

// truth returns what a true or a false says.
func truth(w api.Word) int {
	if w.S == "true" {
		return 1
	}
	return 0
}
