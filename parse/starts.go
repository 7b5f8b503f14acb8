package parse

import "gimlet/api"

// role is a set of parts that words may begin.
type role uint8

const (
	aDecl role = 1 << iota
	aParams
	aType    // Ty3
	aPattern // Pat2
	anAtom
)

// start is what of a word says which parts it may begin: its kind, and of Keys and Signs which one it is.
type start struct {
	kind int
	s    string
}

func starts() map[start]role {
	return map[start]role{
		{kind: api.WordInt}:        aPattern | anAtom,
		{kind: api.WordText}:       anAtom,
		{kind: api.WordName}:       aType | aPattern | anAtom,
		{kind: api.WordCon}:        aPattern | anAtom,
		{kind: api.WordVar}:        aParams | aType,
		{api.WordKey, "type"}:      aDecl,
		{api.WordKey, "exception"}: aDecl,
		{api.WordKey, "let"}:       aDecl,
		{api.WordKey, "true"}:      aPattern | anAtom,
		{api.WordKey, "false"}:     aPattern | anAtom,
		{api.WordKey, "begin"}:     anAtom,
		{api.WordSign, "("}:        aParams | aType | aPattern | anAtom,
		{api.WordSign, "-"}:        aPattern,
		{api.WordSign, "_"}:        aPattern,
	}
}

// may returns whether the next word may begin a part.
func (c *cursor) may(begin role) bool {
	w := c.word()
	at := start{kind: w.Kind}
	if w.Kind == api.WordKey || w.Kind == api.WordSign {
		at.s = w.S
	}
	return c.starts[at]&begin != 0
}
