package place

import (
	"math"
	"testing"

	"gimlet/api"
)

// P13.1, P13.3: globals get the words of their Init.
func TestGlobalInit(t *testing.T) {
	words := []uint32{0, 1, 7, 255, 256, 1<<16 - 1, 1 << 16, 1<<31 - 1, 1 << 31, 1<<31 + 1, 1<<32 - 256, math.MaxUint32 - 1, math.MaxUint32}
	for _, mut := range []bool{false, true} {
		var m api.Module
		for _, v := range words {
			m.Globals = append(m.Globals, api.Global{Mut: mut, Init: number(v)})
		}
		p := must(t, m)
		for n, v := range words {
			globalAs(t, p, uint32(n), v, api.OK)
		}
	}
}

// P13.3: a global that may be set is, alone; one that may not stays; what is no global is neither.
func TestSetGlobal(t *testing.T) {
	muts := []bool{true, false, false, true, true}
	var m api.Module
	for k, mut := range muts {
		m.Globals = append(m.Globals, api.Global{Mut: mut, Init: number(uint32(10 + k))})
	}
	p := must(t, m)
	words := []uint32{10, 11, 12, 13, 14}
	d := dice(1)
	for range 500 {
		n, v := d.below(7), uint32(d.below(1<<31))*2+uint32(d.below(2))
		switch {
		case n >= len(muts):
			setAs(t, p, uint32(n), v, api.ErrMissing)
		case muts[n]:
			setAs(t, p, uint32(n), v, api.OK)
			words[n] = v
		default:
			setAs(t, p, uint32(n), v, api.ErrMut)
		}
		for k, want := range words {
			globalAs(t, p, uint32(k), want, api.OK)
		}
	}
	for _, v := range []uint32{0, 1, 1 << 31, math.MaxUint32, 10} {
		setAs(t, p, 0, v, api.OK)
		globalAs(t, p, 0, v, api.OK)
		// The word that it has does not make it one that may be set.
		setAs(t, p, 1, 11, api.ErrMut)
	}
}

// P13.3: numbers of globals that are not there, near the last one, and those that are so modulo 2^8, 2^16 or 2^31.
func TestNoGlobal(t *testing.T) {
	for many := range 4 {
		var m api.Module
		for range many {
			m.Globals = append(m.Globals, api.Global{Mut: true, Init: number(5)})
		}
		p := must(t, m)
		for _, n := range []uint32{uint32(many), uint32(many) + 1, 256, 1 << 16, 1 << 31, 1<<31 + 1, math.MaxUint32 - 1, math.MaxUint32} {
			globalAs(t, p, n, 0, api.ErrMissing)
			setAs(t, p, n, 9, api.ErrMissing)
		}
		for n := range many {
			globalAs(t, p, uint32(n), 5, api.OK)
		}
	}
}

// P13.3: as many globals as there may be.
func TestManyGlobals(t *testing.T) {
	m := api.Module{Globals: make([]api.Global, api.MaxItems)}
	for k := range m.Globals {
		m.Globals[k] = api.Global{Mut: k%3 == 0, Init: number(uint32(k * 262147))}
	}
	p := must(t, m)
	for k := range uint32(api.MaxItems) {
		globalAs(t, p, k, k*262147, api.OK)
		if k%3 == 0 {
			setAs(t, p, k, ^k, api.OK)
		} else {
			setAs(t, p, k, ^k, api.ErrMut)
		}
	}
	for k := range uint32(api.MaxItems) {
		want := k * 262147
		if k%3 == 0 {
			want = ^k
		}
		globalAs(t, p, k, want, api.OK)
	}
	globalAs(t, p, api.MaxItems, 0, api.ErrMissing)
	setAs(t, p, api.MaxItems, 1, api.ErrMissing)
}

// P13.1: a Start is not called by New: neither does it set its global, nor does it trap.
func TestNotStarted(t *testing.T) {
	m := paged(1)
	m.Types = types()
	m.Globals = []api.Global{{Mut: true, Init: number(3)}}
	m.Funcs = []api.Func{{Code: api.Code{L: []api.Instr{
		{Op: api.OpConst, N: 4}, {Op: api.OpSetGlobal}, {Op: api.OpConst, N: 4}, {Op: api.OpConst, N: 5}, {Op: api.OpStore}, {Op: api.OpUnreachable},
	}}}}
	m.Started = true
	p := must(t, m)
	globalAs(t, p, 0, 3, api.OK)
	readsAs(t, p, 0, make([]byte, 65536)...)
	if got := p.Module(); !got.Started {
		t.Error("the module is not Started")
	}
}
