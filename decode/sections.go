package decode

import (
	"gimlet/api"
	"gimlet/encode"
	"gimlet/name"
)

// The numbers of sections.
const (
	idOther = iota // it belongs to others: nothing of it is kept
	idTypes
	idImports
	idFuncs
	idTables
	idMemories
	idGlobals
	idExports
	idStart
	idElems
	idCodes
	idDatas
)

// eachSection reads all bytes, and calls visit with each section's number and its own bytes before it goes on to the next one.
func eachSection(c *cursor, visit func(id int, own *cursor)) {
	c.head()
	last := 0
	for c.at < len(c.b) {
		id := c.sectionNumber(last)
		last = max(last, id)
		visit(id, c.sized())
	}
}

// head reads what every module begins with: a module with nothing has just that.
func (c *cursor) head() {
	head, _ := encode.Module(api.Module{})
	for _, want := range head {
		start := c.at
		if c.one() != want {
			throw(api.ErrMagic, start)
		}
	}
}

// sectionNumber reads the number of a section behind those up to the last one.
func (c *cursor) sectionNumber(last int) int {
	start := c.at
	id := int(c.one())
	if id > idDatas {
		throw(api.ErrSection, start)
	}
	if id != idOther && id <= last {
		throw(api.ErrOrder, start)
	}
	return id
}

func chunks(c *cursor) []api.Chunk {
	var l []api.Chunk
	eachSection(c, func(id int, own *cursor) {
		l = append(l, api.Chunk{ID: id, At: own.at, End: len(own.b)})
	})
	return l
}

func wholeModule(c *cursor) api.Module {
	u := &unfinished{}
	eachSection(c, u.section)
	if u.uncoded > 0 {
		throw(api.ErrCount, c.at)
	}
	return u.m
}

// unfinished is a module as far as its sections have been read.
type unfinished struct {
	m       api.Module
	uncoded int // how many functions have no code yet
}

// section reads the bytes of a section.
func (u *unfinished) section(id int, c *cursor) {
	m := &u.m
	switch id {
	case idOther:
		taken(c, name.Get)
		c.at = len(c.b) // whatever follows the name
	case idTypes:
		m.Types = list(c.count(api.MaxItems), c.funcType)
	case idImports:
		m.Imports = list(c.count(api.MaxItems), c.imported)
	case idFuncs:
		m.Funcs = list(c.count(api.MaxItems), c.function)
		u.uncoded = len(m.Funcs)
	case idTables:
		m.Tables = list(c.count(1), c.table)
	case idMemories:
		m.Memories = list(c.count(1), c.memory)
	case idGlobals:
		m.Globals = list(c.count(api.MaxItems), c.global)
	case idExports:
		m.Exports = list(c.count(api.MaxItems), c.exported)
	case idStart:
		m.Started, m.Start = true, c.number()
	case idElems:
		m.Elems = list(c.count(api.MaxItems), c.elem)
	case idCodes:
		u.codes(c)
	case idDatas:
		m.Datas = list(c.count(api.MaxItems), c.data)
	}
	c.finish()
}

// codes reads a code for each function.
func (u *unfinished) codes(c *cursor) {
	start := c.at
	n := c.count(api.MaxItems)
	if int(n) != u.uncoded {
		throw(api.ErrCount, start)
	}
	for k, code := range list(n, c.code) {
		u.m.Funcs[k].Code = code
	}
	u.uncoded = 0
}
