package valid

import (
	"math"
	"testing"

	"gimlet/api"
)

func TestRefersLocals(t *testing.T) {
	// Two words that it takes, and three of its own.
	for _, results := range []int{0, 1} {
		end := words(results)
		for a := range uint32(5) {
			holds(t, "get", fn(results, join(list(with(api.OpGet, a), op(api.OpDrop)), end)...), api.OK, 0)
			holds(t, "set", fn(results, join(list(word(1), with(api.OpSet, a)), end)...), api.OK, 0)
			holds(t, "tee", fn(results, join(list(word(1), with(api.OpTee, a), op(api.OpDrop)), end)...), api.OK, 0)
		}
		for _, a := range []uint32{5, 6, 256, 1 << 16, 1 << 31, math.MaxUint32} {
			for _, o := range []int{api.OpGet, api.OpSet, api.OpTee} {
				// That it does not exist comes ahead of the words that are not there.
				holds(t, "a word beyond", fn(results, join(list(with(o, a)), end)...), api.ErrMissing, 1)
				holds(t, "a word beyond", fn(results, word(1), block(0, op(api.OpUnreachable), with(o, a))), api.ErrMissing, 4)
			}
		}
	}
	tryAll(t, "locals", []try{
		{0, list(with(api.OpSet, 4)), api.ErrUnder, 1}, {0, list(with(api.OpTee, 4)), api.ErrUnder, 1}, {0, list(with(api.OpGet, 4)), api.ErrLeft, 0},
		{0, list(with(api.OpGet, 4), with(api.OpTee, 4), with(api.OpSet, 0)), api.OK, 0}, {0, list(with(api.OpGet, 4), with(api.OpSet, 4), op(api.OpDrop)), api.ErrUnder, 3},
	})
	for _, params := range []int{0, 1, 255} {
		for _, locals := range []int{0, 1, 50000} {
			m := api.Module{Types: []api.FuncType{{Params: params}}, Funcs: []api.Func{{Code: api.Code{Locals: locals}}}}
			for _, a := range []int{0, params - 1, params, params + 1, locals - 1, locals, locals + 1, params + locals - 1, params + locals, params + locals + 1} {
				if a < 0 {
					continue
				}
				want, at := api.OK, 0
				if a >= params+locals {
					want, at = api.ErrMissing, 1
				}
				m.Funcs[0].Code.L = list(with(api.OpGet, uint32(a)), op(api.OpDrop))
				holds(t, "a word of many", m, want, at)
			}
		}
	}
}

func TestRefersGlobals(t *testing.T) {
	get, set := func(a uint32) api.Instr { return with(api.OpGetGlobal, a) }, func(a uint32) api.Instr { return with(api.OpSetGlobal, a) }
	tryAll(t, "globals", []try{
		{1, list(get(0)), api.OK, 0}, {1, list(get(1)), api.OK, 0}, {1, list(get(2)), api.ErrMissing, 1}, {1, list(get(1 << 31)), api.ErrMissing, 1}, {1, list(get(math.MaxUint32)), api.ErrMissing, 1}, {0, list(get(0)), api.ErrLeft, 0},
		{0, list(word(1), set(1)), api.OK, 0}, {0, list(word(1), set(0)), api.ErrMut, 2}, {0, list(word(1), set(2)), api.ErrMissing, 2}, {0, list(word(1), set(math.MaxUint32)), api.ErrMissing, 2},
		// Ahead of the words that are not there, and also in what is dead.
		{0, list(set(1)), api.ErrUnder, 1}, {0, list(set(0)), api.ErrMut, 1}, {0, list(set(2)), api.ErrMissing, 1},
		{0, list(op(api.OpUnreachable), set(1)), api.OK, 0}, {0, list(op(api.OpUnreachable), set(0)), api.ErrMut, 2}, {0, list(op(api.OpUnreachable), set(2)), api.ErrMissing, 2}, {0, list(op(api.OpUnreachable), get(2)), api.ErrMissing, 2},
	})
	// Which of several may be set: each by itself.
	for k := range 4 {
		m := fn(0)
		m.Globals = make([]api.Global, 4)
		for n := range m.Globals {
			m.Globals[n] = api.Global{Mut: n == k, Init: words(1)}
		}
		for a := range uint32(6) {
			want, at := api.OK, 0
			switch {
			case a > 3:
				want, at = api.ErrMissing, 2
			case int(a) != k:
				want, at = api.ErrMut, 2
			}
			m.Funcs[0].Code.L = list(get(a%4), set(a))
			holds(t, "set one of four", m, want, at)
		}
	}
	m := fn(0, get(0), op(api.OpDrop))
	m.Globals = nil
	holds(t, "no globals", m, api.ErrMissing, 1)
	m.Funcs[0].Code.L = list(word(1), set(0))
	holds(t, "no globals", m, api.ErrMissing, 2)
}

// Loads, stores, and what asks a memory's size, with and without a memory; each load's and store's greatest align, and more.
func TestRefersMemory(t *testing.T) {
	none := func(m api.Module) api.Module {
		m.Memories = nil
		return m
	}
	for o, most := range alignTable {
		takes, leaves := shapeTable[o][0], shapeTable[o][1]
		for a := range uint32(5) {
			want, at := api.OK, 0
			if a > most {
				want, at = api.ErrAlign, takes+1
			}
			for _, b := range []uint32{0, 1, 1 << 16, math.MaxUint32} {
				i := api.Instr{Op: o, A: a, B: b}
				l := join(words(takes), list(i), drops(leaves))
				holds(t, "aligned", fn(0, l...), want, at)
				holds(t, "aligned, without a memory", none(fn(0, l...)), api.ErrMissing, takes+1)
				holds(t, "aligned, and no words", none(fn(0, i)), api.ErrMissing, 1)
				holds(t, "aligned, in what is dead", none(fn(0, op(api.OpUnreachable), i)), api.ErrMissing, 2)
				under := api.ErrUnder
				if a > most {
					under = api.ErrAlign
				}
				holds(t, "aligned, and a word too few", fn(0, join(words(takes-1), list(i))...), under, takes)
			}
		}
		for _, a := range []uint32{7, 32, 256, 1 << 31, math.MaxUint32} {
			i := with(o, a)
			holds(t, "aligned widely", fn(0, i), api.ErrAlign, 1)
			holds(t, "aligned widely, in what is dead", fn(0, op(api.OpUnreachable), i, op(api.OpDrop)), api.ErrAlign, 2)
			holds(t, "aligned widely, without a memory", none(fn(0, i)), api.ErrMissing, 1)
		}
	}
	tryAll(t, "a memory", []try{
		{1, list(op(api.OpSize)), api.OK, 0}, {1, list(word(1), op(api.OpGrow)), api.OK, 0}, {1, list(op(api.OpGrow)), api.ErrUnder, 1}, {0, list(op(api.OpSize)), api.ErrLeft, 0}, {0, list(op(api.OpSize), op(api.OpGrow)), api.ErrLeft, 0},
	})
	holds(t, "no memory", none(fn(1, op(api.OpSize))), api.ErrMissing, 1)
	holds(t, "no memory", none(fn(1, word(1), op(api.OpGrow))), api.ErrMissing, 2)
	holds(t, "no memory", none(fn(1, op(api.OpGrow))), api.ErrMissing, 1)
	holds(t, "no memory", none(fn(1, op(api.OpUnreachable), op(api.OpSize))), api.ErrMissing, 2)
	// A memory of no pages is one.
	m := fn(1, op(api.OpSize))
	m.Memories = make([]api.Limits, 1)
	holds(t, "a memory of no pages", m, api.OK, 0)
}

func TestRefersCall(t *testing.T) {
	call := func(a uint32) api.Instr { return with(api.OpCall, a) }
	tryAll(t, "call", []try{
		// The host's: one that takes a word, one that returns one.
		{0, list(call(0)), api.ErrUnder, 1}, {0, list(word(1), call(0)), api.OK, 0}, {0, list(word(1), word(1), call(0), op(api.OpDrop)), api.OK, 0}, {1, list(word(1), call(0)), api.ErrUnder, 0},
		{1, list(call(1)), api.OK, 0}, {0, list(call(1)), api.ErrLeft, 0}, {0, list(call(1), call(0)), api.OK, 0},
		// Its own: itself, and one that takes three.
		{1, list(word(1), word(1), call(2)), api.OK, 0}, {1, list(word(1), call(2)), api.ErrUnder, 2}, {0, list(word(1), word(1), call(2)), api.OK, 0}, {0, list(word(1), call(2)), api.ErrUnder, 2},
		{1, join(words(3), list(call(3))), api.OK, 0}, {1, join(words(2), list(call(3))), api.ErrUnder, 3}, {1, join(words(4), list(call(3), op(api.OpAdd))), api.OK, 0}, {1, join(words(3), list(call(3), op(api.OpAdd))), api.ErrUnder, 5},
		{0, list(word(1), block(0, call(0))), api.ErrUnder, 3},
		// One beyond, ahead of the words that are not there, and in what is dead.
		{0, list(call(4)), api.ErrMissing, 1}, {0, list(word(1), call(4)), api.ErrMissing, 2}, {0, list(call(5)), api.ErrMissing, 1}, {0, list(call(1 << 31)), api.ErrMissing, 1}, {0, list(call(math.MaxUint32)), api.ErrMissing, 1},
		{0, list(op(api.OpUnreachable), call(4)), api.ErrMissing, 2}, {0, list(op(api.OpUnreachable), call(3), op(api.OpDrop)), api.OK, 0}, {0, list(op(api.OpUnreachable), call(3)), api.ErrLeft, 0}, {1, list(op(api.OpUnreachable), call(0)), api.OK, 0},
	})
	// A function whose type does not exist is none.
	for _, c := range []struct {
		a    uint32
		what func(*api.Module)
	}{
		{0, func(m *api.Module) { m.Imports[0].Type = 6 }}, {1, func(m *api.Module) { m.Imports[1].Type = math.MaxInt32 }}, {3, func(m *api.Module) { m.Funcs[1].Type = 6 }},
	} {
		m := fn(0, call(c.a))
		c.what(&m)
		if e, at := Body(m, 0); e != api.ErrMissing || at != 1 {
			t.Errorf("a call of a function without a type: %v, %d", e, at)
		}
	}
}

func TestRefersIndirect(t *testing.T) {
	call := func(a uint32) api.Instr { return with(api.OpIndirect, a) }
	types := rich().Types
	for a, kind := range types {
		for n := range 6 {
			want, at := api.OK, 0
			if n < kind.Params+1 {
				want, at = api.ErrUnder, n+1
			}
			l := join(words(n), list(call(uint32(a))), drops(max(0, n-kind.Params-1)+kind.Results))
			holds(t, "call_indirect", fn(0, l...), want, at)
			m := fn(0, l...)
			m.Tables = nil
			holds(t, "call_indirect without a table", m, api.ErrMissing, n+1)
			if n > kind.Params {
				holds(t, "call_indirect, and a word too few", fn(0, append(l, op(api.OpDrop))...), api.ErrUnder, len(l)+1)
			}
		}
		holds(t, "call_indirect in what is dead", fn(0, join(list(op(api.OpUnreachable), call(uint32(a))), drops(kind.Results))...), api.OK, 0)
		holds(t, "call_indirect in what is dead, and one left", fn(0, join(list(op(api.OpUnreachable), call(uint32(a)), word(1)), drops(kind.Results))...), api.ErrLeft, 0)
	}
	for _, a := range []uint32{6, 7, 256, 1 << 31, math.MaxUint32} {
		holds(t, "a type beyond", fn(0, call(a)), api.ErrMissing, 1)
		holds(t, "a type beyond", fn(0, word(1), call(a)), api.ErrMissing, 2)
		holds(t, "a type beyond, in what is dead", fn(0, op(api.OpUnreachable), call(a)), api.ErrMissing, 2)
		m := fn(0, call(a))
		m.Tables = nil
		holds(t, "a type beyond, and no table", m, api.ErrMissing, 1)
	}
	tryAll(t, "call_indirect", []try{
		{0, list(word(1), block(0, call(0))), api.ErrUnder, 3}, {0, list(word(1), call(0), op(api.OpDrop)), api.ErrUnder, 3},
	})
	// A table of no entries is one; one word is the entry, and no other.
	m := fn(0, word(1), word(1), call(2))
	m.Tables = make([]api.Limits, 1)
	holds(t, "a table of no entries", m, api.OK, 0)
}
