package decode

import (
	"math"

	"gimlet/api"
	"gimlet/body"
	"gimlet/kind"
	"gimlet/name"
)

const (
	maxName = 1000 // bytes of a name that is kept
	lasting = 0    // a global that may not be set
	mutable = 1    // one that may be
)

func (c *cursor) name() string {
	start := c.at
	s := taken(c, name.Get)
	if len(s) > maxName {
		throw(api.ErrLong, start)
	}
	return s
}

// typeNumber reads the number of a type.
func (c *cursor) typeNumber() int {
	start := c.at
	n := c.number()
	if n > math.MaxInt32 {
		throw(api.ErrRange, start)
	}
	return int(n)
}

func (c *cursor) limits(most uint32) api.Limits {
	return taken(c, func(b []byte, at int) (api.Limits, int, api.Fault) { return kind.GetLimits(b, at, most) })
}

// offset reads the number of a table or a memory, of which there is only the first, and where something is laid into it.
func (c *cursor) offset() []api.Instr {
	start := c.at
	if c.number() != 0 {
		throw(api.ErrTag, start)
	}
	return taken(c, body.Get)
}

func (c *cursor) funcType() api.FuncType { return taken(c, kind.Get) }

func (c *cursor) imported() api.Import {
	i := api.Import{Module: c.name(), Name: c.name()}
	c.oneOf(api.KindFunc)
	i.Type = c.typeNumber()
	return i
}

// function reads a function's type: its code comes in another section.
func (c *cursor) function() api.Func { return api.Func{Type: c.typeNumber()} }

func (c *cursor) table() api.Limits {
	c.oneOf(api.TypeTable)
	return c.limits(api.MaxTable)
}

func (c *cursor) memory() api.Limits { return c.limits(api.MaxMemory) }

func (c *cursor) global() api.Global {
	c.oneOf(api.TypeWord)
	return api.Global{Mut: c.oneOf(lasting, mutable) == mutable, Init: taken(c, body.Get)}
}

func (c *cursor) exported() api.Export {
	e := api.Export{Name: c.name()}
	e.Kind = int(c.oneOf(api.KindFunc, api.KindTable, api.KindMemory, api.KindGlobal))
	e.Index = c.number()
	return e
}

func (c *cursor) elem() api.Elem {
	return api.Elem{Offset: c.offset(), Funcs: list(c.count(api.MaxItems), c.number)}
}

func (c *cursor) code() api.Code {
	own := c.sized()
	code := taken(own, body.GetCode)
	own.finish()
	return code
}

func (c *cursor) data() api.Data { return api.Data{Offset: c.offset(), Bytes: c.sized().rest()} }
