package parse

import (
	"math"

	"gimlet/api"
)

// thrown is a fault on its way to the exported function.
type thrown struct{ fault api.Fault }

func throw(e api.Errno, at int) { panic(thrown{api.Fault{Err: e, At: at}}) }

// anyNumber is how many items a list may have where the chapter names no limit.
const anyNumber = math.MaxInt

// cursor is the words that have not been read.
type cursor struct {
	words  []api.Word
	end    int // the text's: where a word is missing
	open   int // how many of the parts that count have begun and not ended
	starts map[start]role
}

// word returns the next word; at the end of the text one of no kind.
func (c *cursor) word() api.Word {
	if len(c.words) == 0 {
		return api.Word{At: c.end}
	}
	return c.words[0]
}

// refuse throws a fault at the next word.
func (c *cursor) refuse(e api.Errno) { throw(e, c.word().At) }

// take reads the next word, which must be one that fits.
func (c *cursor) take(fits bool) api.Word {
	if !fits {
		c.refuse(api.ErrSyntax)
	}
	w := c.words[0]
	c.words = c.words[1:]
	return w
}

func (c *cursor) takeKind(kind int) api.Word { return c.take(c.word().Kind == kind) }

// takeStart reads a word that may begin a part.
func (c *cursor) takeStart(of role) api.Word { return c.take(c.may(of)) }

// takeMark reads that Key or Sign.
func (c *cursor) takeMark(s string) api.Word { return c.take(c.stands(s)) }

// stands returns whether the next word is that Key or Sign. (A Text may have the same S.)
func (c *cursor) stands(s string) bool {
	w := c.word()
	return w.S == s && (w.Kind == api.WordKey || w.Kind == api.WordSign)
}

// skip reads that Key or Sign if it stands there, and returns whether it did.
func (c *cursor) skip(s string) bool {
	stands := c.stands(s)
	if stands {
		c.takeMark(s)
	}
	return stands
}

// within reads a part of those that count: only so many of them may stand in one another.
func (c *cursor) within(read func() api.Part) api.Part {
	if c.open >= api.MaxWithin {
		c.refuse(api.ErrNest)
	}
	c.open++
	p := read()
	c.open--
	return p
}

// after reads a Key or Sign, and the part behind it.
func (c *cursor) after(mark string, read func() api.Part) api.Part {
	c.takeMark(mark)
	return read()
}

// before reads a part, and the Key or Sign behind it.
func (c *cursor) before(mark string, read func() api.Part) api.Part {
	p := read()
	c.takeMark(mark)
	return p
}

// list reads parts with a Key or Sign between each two.
func (c *cursor) list(read func() api.Part, between string, most int) []api.Part {
	l := []api.Part{read()}
	for c.skip(between) {
		if len(l) >= most {
			c.refuse(api.ErrSyntax)
		}
		l = append(l, read())
	}
	return l
}

// right reads a part, and, if the mark stands behind it, the rest, which is the other half of what they are together.
func (c *cursor) right(kind int, read func() api.Part, mark string, rest func() api.Part) api.Part {
	p := read()
	if c.skip(mark) {
		return both(kind, p, rest())
	}
	return p
}

// both returns the part that has two parts, the first of which it begins with.
func both(kind int, a, b api.Part) api.Part {
	return api.Part{Kind: kind, At: a.At, L: []api.Part{a, b}}
}
