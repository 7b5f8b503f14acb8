package encode

import (
	"gimlet/api"
	"gimlet/body"
	"gimlet/kind"
	"gimlet/leb"
	"gimlet/name"
)

const (
	lasting  = 0 // a global that may not be set
	mutable  = 1 // one that may be
	theFirst = 0 // the number of the table, and of the memory: there is no other one
)

// buffer is bytes to which the parts of a module are appended.
type buffer []byte

func (b *buffer) byte(c byte) { *b = append(*b, c) }

func (b *buffer) number(n uint32) { *b = append(*b, leb.PutU(n)...) }

// sized appends bytes, and how many they are ahead of them.
func (b *buffer) sized(l []byte) {
	b.number(uint32(len(l)))
	*b = append(*b, l...)
}

// put appends what a lower layer returns. Its error is always OK: module.Check asks for more than each of those layers does.
func (b *buffer) put(l []byte, _ api.Errno) { *b = append(*b, l...) }

func (b *buffer) funcType(t api.FuncType) { b.put(kind.Put(t)) }

func (b *buffer) imported(i api.Import) {
	b.put(name.Put(i.Module))
	b.put(name.Put(i.Name))
	b.byte(api.KindFunc)
	b.number(uint32(i.Type))
}

func (b *buffer) typeOf(f api.Func) { b.number(uint32(f.Type)) }

func (b *buffer) table(l api.Limits) {
	b.byte(api.TypeTable)
	b.put(kind.PutLimits(l, api.MaxTable))
}

func (b *buffer) memory(l api.Limits) { b.put(kind.PutLimits(l, api.MaxMemory)) }

func (b *buffer) global(g api.Global) {
	b.byte(api.TypeWord)
	if g.Mut {
		b.byte(mutable)
	} else {
		b.byte(lasting)
	}
	b.put(body.Put(g.Init))
}

func (b *buffer) exported(e api.Export) {
	b.put(name.Put(e.Name))
	b.byte(byte(e.Kind))
	b.number(e.Index)
}

func (b *buffer) elem(e api.Elem) {
	b.byte(theFirst)
	b.put(body.Put(e.Offset))
	b.number(uint32(len(e.Funcs)))
	for _, f := range e.Funcs {
		b.number(f)
	}
}

func (b *buffer) code(f api.Func) {
	l, _ := body.PutCode(f.Code)
	b.sized(l)
}

func (b *buffer) data(d api.Data) {
	b.byte(theFirst)
	b.put(body.Put(d.Offset))
	b.sized(d.Bytes)
}
