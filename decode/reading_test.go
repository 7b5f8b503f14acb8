package decode

import (
	"bytes"
	"unicode/utf8"

	"gimlet/api"
	"gimlet/body"
)

// reading is P9.1 and P9.2, said another way: each part of the bytes is a slice of its own that knows where it has come from; the first fault is kept, and nothing is read after it. Instructions alone are left to body.
type reading struct {
	b     []byte     // what has not been read
	at    int        // the place of its first byte
	fault *api.Fault // the same one for all parts
}

func (r *reading) end() int { return r.at + len(r.b) }

func (r *reading) ok() bool { return r.fault.Err == api.OK }

func (r *reading) refuse(e api.Errno, at int) {
	if r.ok() {
		*r.fault = api.Fault{Err: e, At: at}
	}
}

// part takes so many bytes away from the front.
func (r *reading) part(n uint32) *reading {
	if r.ok() && int64(n) > int64(len(r.b)) {
		r.refuse(api.ErrBytes, r.end())
	}
	if !r.ok() {
		return &reading{fault: r.fault}
	}
	own := &reading{b: r.b[:n], at: r.at, fault: r.fault}
	r.b, r.at = r.b[n:], r.at+int(n)
	return own
}

// tag reads a byte that must be from low to high.
func (r *reading) tag(low, high byte) byte {
	at := r.at
	c := byte(0)
	for _, c = range r.part(1).b {
		if c < low || c > high {
			r.refuse(api.ErrTag, at)
		}
	}
	return c
}

// number reads a number of at most so much: if it is above that, the fault is e, at its beginning.
func (r *reading) number(most uint32, e api.Errno) uint32 {
	start, n := r.at, uint64(0)
	for k := 0; ; k++ {
		at := r.at
		b := r.part(1).b
		if !r.ok() {
			return 0
		}
		if k == 4 && b[0] > 15 {
			r.refuse(api.ErrBytes, at)
			return 0
		}
		n += uint64(b[0]%128) << (7 * k)
		if b[0] < 128 {
			break
		}
	}
	if n > uint64(most) {
		r.refuse(e, start)
		return 0
	}
	return uint32(n)
}

func (r *reading) index() uint32 { return r.number(1<<32-1, api.OK) }

func (r *reading) typeNumber() int { return int(r.number(1<<31-1, api.ErrRange)) }

func (r *reading) name(most int) string {
	start := r.at
	text := r.part(r.index())
	for rest := text.b; len(rest) > 0; {
		x, width := utf8.DecodeRune(rest)
		if x == utf8.RuneError && width == 1 {
			r.refuse(api.ErrBytes, text.end()-len(rest))
		}
		rest = rest[width:]
	}
	if len(text.b) > most {
		r.refuse(api.ErrLong, start)
	}
	return string(text.b)
}

func (r *reading) words(most uint32) int {
	n := r.number(most, api.ErrMany)
	for range n {
		r.tag(127, 127)
	}
	return int(n)
}

func (r *reading) funcType() api.FuncType {
	r.tag(96, 96)
	params := r.words(255)
	return api.FuncType{Params: params, Results: r.words(1)}
}

func (r *reading) limits(most uint32) api.Limits {
	l := api.Limits{Capped: r.tag(0, 1) == 1}
	first := r.at
	l.Min = r.index()
	second := r.at
	if l.Capped {
		l.Max = r.index()
	}
	if l.Min > most {
		r.refuse(api.ErrMany, first)
	}
	if l.Capped && (l.Max > most || l.Max < l.Min) {
		r.refuse(api.ErrMany, second)
	}
	return l
}

// byBody reads what body does.
func byBody[T any](r *reading, get func([]byte, int) (T, int, api.Fault)) T {
	var none T
	if !r.ok() {
		return none
	}
	x, next, f := get(r.b, 0)
	if f.Err != api.OK {
		r.refuse(f.Err, r.at+f.At)
		return none
	}
	r.part(uint32(next))
	return x
}

func (r *reading) instructions() []api.Instr { return byBody(r, body.Get) }

func (r *reading) offset() []api.Instr {
	r.number(0, api.ErrTag)
	return r.instructions()
}

// empty refuses bytes that are left.
func (r *reading) empty() {
	if r.ok() && len(r.b) > 0 {
		r.refuse(api.ErrSize, r.at)
	}
}

func (r *reading) code() api.Code {
	own := r.part(r.index())
	c := byBody(own, body.GetCode)
	own.empty()
	return c
}

// items reads a list.
func items[T any](r *reading, most uint32, item func() T) []T {
	var out []T
	for n := r.number(most, api.ErrMany); n > 0 && r.ok(); n-- {
		out = append(out, item())
	}
	return out
}

// section reads the bytes of a section; coded is how many functions have a code.
func (r *reading) section(m *api.Module, id byte, coded *int) {
	switch id {
	case 0:
		r.name(1 << 20)
		r.part(uint32(len(r.b)))
	case 1:
		m.Types = items(r, 16384, r.funcType)
	case 2:
		m.Imports = items(r, 16384, func() (i api.Import) {
			i.Module = r.name(1000)
			i.Name = r.name(1000)
			r.tag(0, 0)
			i.Type = r.typeNumber()
			return i
		})
	case 3:
		m.Funcs = items(r, 16384, func() api.Func { return api.Func{Type: r.typeNumber()} })
	case 4:
		m.Tables = items(r, 1, func() api.Limits {
			r.tag(112, 112)
			return r.limits(1 << 20)
		})
	case 5:
		m.Memories = items(r, 1, func() api.Limits { return r.limits(65536) })
	case 6:
		m.Globals = items(r, 16384, func() (g api.Global) {
			r.tag(127, 127)
			g.Mut = r.tag(0, 1) == 1
			g.Init = r.instructions()
			return g
		})
	case 7:
		m.Exports = items(r, 16384, func() (e api.Export) {
			e.Name = r.name(1000)
			e.Kind = int(r.tag(0, 3))
			e.Index = r.index()
			return e
		})
	case 8:
		m.Start = r.index()
		m.Started = true
	case 9:
		m.Elems = items(r, 16384, func() (e api.Elem) {
			e.Offset = r.offset()
			e.Funcs = items(r, 16384, r.index)
			return e
		})
	case 10:
		r.codes(m)
		*coded = len(m.Funcs)
	case 11:
		m.Datas = items(r, 16384, func() (d api.Data) {
			d.Offset = r.offset()
			d.Bytes = bytes.Clone(r.part(r.index()).b)
			return d
		})
	}
	r.empty()
}

func (r *reading) codes(m *api.Module) {
	start := r.at
	n := r.number(16384, api.ErrMany)
	if n != uint32(len(m.Funcs)) {
		r.refuse(api.ErrCount, start)
	}
	for k := range m.Funcs {
		if r.ok() {
			m.Funcs[k].Code = r.code()
		}
	}
}

// readAll reads all bytes; what a section has in it only if that is asked for.
func readAll(b []byte, inside bool) (m api.Module, l []api.Chunk, f api.Fault) {
	r := &reading{b: b, fault: &f}
	if len(b) > 1048576 {
		r.refuse(api.ErrLong, 0)
	}
	for _, want := range []byte("\x00asm\x01\x00\x00\x00") {
		at := r.at
		if got := r.part(1).b; r.ok() && got[0] != want {
			r.refuse(api.ErrMagic, at)
		}
	}
	coded, last := 0, byte(0)
	for r.ok() && len(r.b) > 0 {
		at := r.at
		id := r.part(1).b[0]
		if id > 11 {
			r.refuse(api.ErrSection, at)
		}
		if id > 0 && id <= last {
			r.refuse(api.ErrOrder, at)
		}
		if id > 0 {
			last = id
		}
		own := r.part(r.index())
		l = append(l, api.Chunk{ID: int(id), At: own.at, End: own.end()})
		if inside {
			own.section(&m, id, &coded)
		}
	}
	if coded != len(m.Funcs) {
		r.refuse(api.ErrCount, len(b))
	}
	if !r.ok() {
		return api.Module{}, nil, f
	}
	return m, l, f
}

func readModule(b []byte) (api.Module, api.Fault) {
	m, _, f := readAll(b, true)
	return m, f
}

func readSections(b []byte) ([]api.Chunk, api.Fault) {
	_, l, f := readAll(b, false)
	return l, f
}
