package decode

import (
	"bytes"
	"slices"

	"gimlet/api"
	"gimlet/leb"
)

// thrown is a fault on its way to the package's boundary.
type thrown struct{ fault api.Fault }

func throw(e api.Errno, at int) { panic(thrown{api.Fault{Err: e, At: at}}) }

// cursor is the bytes up to an end, and how far they have been read. They always begin where the whole does, so that places are the same in all parts of it.
type cursor struct {
	b  []byte
	at int
}

// one reads a byte.
func (c *cursor) one() byte {
	if c.at == len(c.b) {
		throw(api.ErrBytes, c.at)
	}
	x := c.b[c.at]
	c.at++
	return x
}

// oneOf reads a byte that must be one of those that are allowed.
func (c *cursor) oneOf(allowed ...byte) byte {
	start := c.at
	x := c.one()
	if !slices.Contains(allowed, x) {
		throw(api.ErrTag, start)
	}
	return x
}

func (c *cursor) number() uint32 { return taken(c, leb.GetU) }

// count reads the number of items of a list.
func (c *cursor) count(most uint32) uint32 {
	start := c.at
	n := c.number()
	if n > most {
		throw(api.ErrMany, start)
	}
	return n
}

// sized reads a size, and skips so many bytes, which are to be read by themselves: what follows them is out of reach there.
func (c *cursor) sized() *cursor {
	size := c.number()
	if uint64(size) > uint64(len(c.b)-c.at) {
		throw(api.ErrBytes, len(c.b))
	}
	start := c.at
	c.at += int(size)
	return &cursor{b: c.b[:c.at:c.at], at: start}
}

// rest returns a copy of the bytes that have not been read.
func (c *cursor) rest() []byte { return bytes.Clone(c.b[c.at:]) }

// finish refuses bytes that are left.
func (c *cursor) finish() {
	if c.at < len(c.b) {
		throw(api.ErrSize, c.at)
	}
}

// taken returns what a lower layer reads.
func taken[T any](c *cursor, get func([]byte, int) (T, int, api.Fault)) T {
	x, next, fault := get(c.b, c.at)
	if fault.Err != api.OK {
		throw(fault.Err, fault.At)
	}
	c.at = next
	return x
}

// list reads so many items.
func list[T any](n uint32, item func() T) []T {
	var l []T
	for range n {
		l = append(l, item())
	}
	return l
}
