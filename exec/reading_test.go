package exec

import (
	"bytes"
	"slices"
	"testing"

	"gimlet/api"
	"gimlet/num"
	"gimlet/place"
)

// The chapter read a second time: a list is run by a function that calls itself, with words of its own; to go on, all is done anew from the call's beginning, with more steps.

// state is what lasts from call to call.
type state struct {
	globals []uint32
	bytes   []byte
	out     []byte
	read    int
	steps   int
}

func (s state) clone() state {
	s.globals, s.bytes, s.out = slices.Clone(s.globals), slices.Clone(s.bytes), slices.Clone(s.out)
	return s
}

type reading struct {
	m         api.Module
	table     []int64 // -1: none
	input     []byte
	then, now state // when the last call began; as it is
	how       int
	trap      api.Errno
	results   []uint32
	called    uint32
	args      []uint32
	given     int // how many steps it may do in all, from then on
}

// halt is thrown where a run does not go on.
type halt struct {
	how  int
	trap api.Errno
}

func read(m api.Module, input string) *reading {
	r := &reading{m: cloned(m), input: []byte(input)}
	for _, l := range m.Tables {
		r.table = slices.Repeat([]int64{-1}, int(l.Min))
	}
	for _, e := range m.Elems {
		for k, f := range e.Funcs {
			r.table[int(e.Offset[0].N)+k] = int64(f)
		}
	}
	for _, g := range m.Globals {
		r.now.globals = append(r.now.globals, uint32(g.Init[0].N))
	}
	for _, l := range m.Memories {
		r.now.bytes = make([]byte, int(l.Min)*pageBytes)
	}
	for _, d := range m.Datas {
		copy(r.now.bytes[d.Offset[0].N:], d.Bytes)
	}
	return r
}

func (r *reading) kind(n uint32) api.FuncType {
	if int(n) < len(r.m.Imports) {
		return r.m.Types[r.m.Imports[n].Type]
	}
	return r.m.Types[r.m.Funcs[int(n)-len(r.m.Imports)].Type]
}

func (r *reading) call(name string, args []uint32) api.Errno {
	if r.how == api.Going {
		return api.ErrState
	}
	for _, e := range r.m.Exports {
		if e.Name == name && e.Kind == 0 {
			if r.kind(e.Index).Params != len(args) {
				return api.ErrArg
			}
			r.begin(e.Index, args)
			return api.OK
		}
	}
	return api.ErrMissing
}

func (r *reading) start() api.Errno {
	switch {
	case r.how == api.Going:
		return api.ErrState
	case !r.m.Started:
		return api.ErrMissing
	}
	r.begin(r.m.Start, nil)
	return api.OK
}

func (r *reading) begin(n uint32, args []uint32) {
	r.called, r.args, r.given, r.then = n, slices.Clone(args), 0, r.now.clone()
	r.again()
}

func (r *reading) step(n int) int {
	if r.how != api.Going {
		return 0
	}
	before := r.now.steps
	r.given += n
	r.again()
	return r.now.steps - before
}

// again does the call from its beginning, as many steps as it may do.
func (r *reading) again() {
	r.now = r.then.clone()
	r.how, r.trap, r.results = api.Done, api.OK, nil
	defer func() {
		if h, is := recover().(halt); is {
			r.how, r.trap = h.how, h.trap
		}
	}()
	r.results = r.invoke(r.called, r.args, 1)
}

// invoke returns what a function returns, in the nested call of this number.
func (r *reading) invoke(n uint32, args []uint32, nested int) []uint32 {
	if int(n) < len(r.m.Imports) {
		if r.m.Imports[n].Name == "putc" {
			r.now.out = append(r.now.out, byte(args[0]%256))
			return nil
		}
		if r.now.read == len(r.input) {
			return []uint32{0xffffffff}
		}
		r.now.read++
		return []uint32{uint32(r.input[r.now.read-1])}
	}
	if nested > 5000 {
		panic(halt{how: api.Deep})
	}
	f := r.m.Funcs[int(n)-len(r.m.Imports)]
	s := &scope{reading: r, nested: nested, local: append(slices.Clone(args), make([]uint32, f.Code.Locals)...)}
	words, _ := s.sequence(f.Code.L)
	return upper(words, r.kind(n).Results)
}

func upper(words []uint32, n int) []uint32 { return words[len(words)-n:] }

// scope is a call.
type scope struct {
	*reading
	nested int
	local  []uint32
}

// How a list has ended: at its end; or by a jump to the list of this number, 0 itself; one that is higher than there are lists is the function's.
const (
	atEnd    = -1
	returned = 1 << 40
)

// sequence does a list, and returns the words that it has left, and how it has ended.
func (s *scope) sequence(l []api.Instr) ([]uint32, int) {
	var own []uint32
	for _, i := range l {
		if s.now.steps-s.then.steps == s.given {
			panic(halt{how: api.Going})
		}
		s.now.steps++
		label := atEnd
		own, label = s.one(i, own)
		if label >= 0 {
			return own, label
		}
	}
	return own, atEnd
}

// inner does a list within another one's words, and returns these with those that it has left, or those alone, if it has ended by a jump further out.
func (s *scope) inner(i api.Instr, l []api.Instr, own []uint32) ([]uint32, int) {
	words, label := s.sequence(l)
	for label == 0 && i.Op == api.OpLoop {
		words, label = s.sequence(l)
	}
	if label > 0 {
		return words, label - 1
	}
	return append(own, upper(words, i.Results)...), atEnd
}

// one does an instruction: the words that are left, and the label to which it jumps.
func (s *scope) one(i api.Instr, own []uint32) ([]uint32, int) {
	last := func(n int) uint32 { return own[len(own)-n] }
	switch i.Op {
	case api.OpUnreachable:
		panic(halt{api.Fallen, api.ErrUnreachable})
	case api.OpBlock, api.OpLoop:
		return s.inner(i, i.L, own)
	case api.OpIf:
		if last(1) == 0 {
			return s.inner(i, i.E, own[:len(own)-1])
		}
		return s.inner(i, i.L, own[:len(own)-1])
	case api.OpBr:
		return own, int(i.A)
	case api.OpBrIf:
		if last(1) == 0 {
			return own[:len(own)-1], atEnd
		}
		return own[:len(own)-1], int(i.A)
	case api.OpBrTable:
		labels := append(slices.Clone(i.Tags), i.A)
		return own[:len(own)-1], int(labels[min(int(last(1)), len(i.Tags))])
	case api.OpReturn:
		return own, returned
	case api.OpCall:
		return s.nest(i.A, own), atEnd
	case api.OpIndirect:
		return s.nest(s.entry(i.A, last(1)), own[:len(own)-1]), atEnd
	}
	return s.plain(i, own), atEnd
}

// nest returns the words after a call that takes the last ones.
func (s *scope) nest(n uint32, own []uint32) []uint32 {
	below := len(own) - s.kind(n).Params
	return append(own[:below:below], s.invoke(n, slices.Clone(own[below:]), s.nested+1)...)
}

func (s *scope) entry(kind, n uint32) uint32 {
	if int64(n) >= int64(len(s.table)) || s.table[n] < 0 {
		panic(halt{api.Fallen, api.ErrEntry})
	}
	f := uint32(s.table[n])
	if s.kind(f).Params != s.m.Types[kind].Params || s.kind(f).Results != s.m.Types[kind].Results {
		panic(halt{api.Fallen, api.ErrMatch})
	}
	return f
}

// taken is how many words the other operations take.
func taken(o int) int {
	switch o {
	case api.OpSelect:
		return 3
	case api.OpStore, api.OpStore8, api.OpStore16:
		return 2
	case api.OpDrop, api.OpSet, api.OpTee, api.OpSetGlobal, api.OpGrow, api.OpLoad, api.OpLoad8S, api.OpLoad8U, api.OpLoad16S, api.OpLoad16U:
		return 1
	}
	return num.Arity(o)
}

func (s *scope) plain(i api.Instr, own []uint32) []uint32 {
	below := len(own) - taken(i.Op)
	w := own[below:]
	left := []uint32{}
	switch i.Op {
	case api.OpNop, api.OpDrop:
	case api.OpSelect:
		left = single(w[0])
		if w[2] == 0 {
			left = single(w[1])
		}
	case api.OpGet:
		left = single(s.local[i.A])
	case api.OpSet:
		s.local[i.A] = w[0]
	case api.OpTee:
		s.local[i.A] = w[0]
		left = single(w[0])
	case api.OpGetGlobal:
		left = single(s.now.globals[i.A])
	case api.OpSetGlobal:
		s.now.globals[i.A] = w[0]
	case api.OpConst:
		left = single(uint32(i.N))
	case api.OpSize:
		left = single(uint32(len(s.now.bytes) / pageBytes))
	case api.OpGrow:
		left = single(s.grow(w[0]))
	case api.OpStore, api.OpStore8, api.OpStore16:
		for k, b := range s.slot(i, w[0]) {
			*b = byte(w[1] >> (8 * k))
		}
	case api.OpLoad, api.OpLoad8S, api.OpLoad8U, api.OpLoad16S, api.OpLoad16U:
		left = single(s.load(i, w[0]))
	default:
		left = single(operated(i.Op, w))
	}
	return append(own[:below:below], left...)
}

func single(v uint32) []uint32 { return []uint32{v} }

func operated(o int, w []uint32) uint32 {
	v, e := num.One(o, w[0])
	if len(w) == 2 {
		v, e = num.Two(o, w[0], w[1])
	}
	if e != api.OK {
		panic(halt{api.Fallen, e})
	}
	return v
}

func (s *scope) grow(n uint32) uint32 {
	pages, most := len(s.now.bytes)/pageBytes, 65536
	if l := s.m.Memories[0]; l.Capped {
		most = int(l.Max)
	}
	if int64(n)+int64(pages) > int64(most) {
		return 0xffffffff
	}
	s.now.bytes = append(s.now.bytes, make([]byte, int(n)*pageBytes)...)
	return uint32(pages)
}

// slot is the bytes of a load or store.
func (s *scope) slot(i api.Instr, address uint32) []*byte {
	n := map[int]int{api.OpLoad: 4, api.OpStore: 4, api.OpLoad16S: 2, api.OpLoad16U: 2, api.OpStore16: 2}[i.Op]
	from := int(address) + int(i.B)
	var all []*byte
	for k := range max(n, 1) {
		if from+k >= len(s.now.bytes) {
			panic(halt{api.Fallen, api.ErrBounds})
		}
		all = append(all, &s.now.bytes[from+k])
	}
	return all
}

func (s *scope) load(i api.Instr, address uint32) uint32 {
	var v uint32
	for k, b := range s.slot(i, address) {
		v += uint32(*b) << (8 * k)
	}
	switch i.Op {
	case api.OpLoad8S:
		return uint32(int32(int8(v)))
	case api.OpLoad16S:
		return uint32(int32(int16(v)))
	}
	return v
}

// sameAs holds what a machine tells, and what its place has, against the second reading.
func sameAs(t *testing.T, what string, x *Machine, p *place.Place, r *reading) {
	t.Helper()
	outcomeAs(t, what, x, api.Outcome{How: r.how, Trap: r.trap, Results: r.results, Out: r.now.out, Read: r.now.read, Steps: r.now.steps})
	for n, want := range r.now.globals {
		if v, e := p.Global(uint32(n)); v != want || e != api.OK {
			t.Errorf("%s: the global %d is %d, %v; want %d", what, n, v, e, want)
		}
	}
	if mem := p.Memory(); mem != nil {
		b, e := mem.Read(0, uint32(len(r.now.bytes)))
		if e != api.OK || !bytes.Equal(b, r.now.bytes) || int(mem.Pages())*pageBytes != len(b) {
			t.Errorf("%s: the memory's bytes are others", what)
		}
	}
}
