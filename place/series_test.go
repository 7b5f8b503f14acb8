package place

import (
	"math"
	"testing"

	"gimlet/api"
)

// maker makes modules, some of which can't be made ready.
type maker struct{ *dice }

// offset is near the beginning, near the end of n items, or far beyond.
func (g maker) offset(n int) uint32 {
	switch g.below(20) {
	case 0:
		return []uint32{1 << 31, math.MaxUint32, math.MaxUint32 - 1, 1 << 20}[g.below(4)]
	case 1:
		return uint32(n + g.below(3))
	case 2, 3, 4:
		return uint32(max(n-g.below(4), 0))
	}
	return uint32(g.below(n + 1))
}

func (g maker) imports() []api.Import {
	var all []api.Import
	for range g.below(4) {
		i := []api.Import{getc(), putc()}[g.below(2)]
		switch g.below(60) {
		case 0:
			i.Type = g.below(4)
		case 1:
			i.Name = []string{"getc", "putc", "", "puts"}[g.below(4)]
		case 2:
			i.Module = []string{"host", "", "hos"}[g.below(3)]
		}
		all = append(all, i)
	}
	return all
}

func (g maker) module() api.Module {
	m := functions(1 + g.below(4))
	m.Imports = g.imports()
	many := len(m.Imports) + len(m.Funcs)
	for range g.below(5) {
		m.Globals = append(m.Globals, api.Global{Mut: g.often(60), Init: number(uint32(g.below(1<<31)) * 2)})
	}
	if g.often(80) {
		m.Tables = []api.Limits{{Min: uint32(g.below(9)), Max: 9, Capped: g.often(50)}}
		if !m.Tables[0].Capped {
			m.Tables[0].Max = 0
		}
		for range g.below(4) {
			m.Elems = append(m.Elems, api.Elem{Offset: number(g.offset(int(m.Tables[0].Min)))})
			for range g.below(4) {
				e := &m.Elems[len(m.Elems)-1]
				e.Funcs = append(e.Funcs, uint32(g.below(many)))
			}
		}
	}
	if g.often(80) {
		m.Memories = []api.Limits{{Min: uint32(g.below(3))}}
		for range g.below(4) {
			m.Datas = append(m.Datas, api.Data{Offset: number(g.offset(int(m.Memories[0].Min) * pageBytes))})
			for range g.below(6) {
				d := &m.Datas[len(m.Datas)-1]
				d.Bytes = append(d.Bytes, byte(g.below(256)))
			}
		}
	}
	g.spoil(&m, many)
	return m
}

// spoil makes few of the modules invalid.
func (g maker) spoil(m *api.Module, many int) {
	switch g.below(50) {
	case 0:
		m.Exports = []api.Export{{Name: "f", Index: uint32(many)}}
	case 1:
		m.Tables = nil
	case 2:
		m.Memories = nil
	case 3:
		m.Started, m.Start = true, uint32(g.below(many+1))
	}
}

// P13.1 to P13.4: many modules, and what is done to their places.
func TestSeries(t *testing.T) {
	d := dice(5)
	g := maker{&d}
	counts := map[api.Errno]int{}
	for n := range 6000 {
		m := g.module()
		r, want := read(m)
		newAs(t, "a module", m, want)
		counts[want]++
		if t.Failed() {
			t.Fatalf("module %d: %+v", n, m)
		}
		if want != api.OK {
			continue
		}
		p := must(t, m)
		sameAs(t, "made", p, r)
		used(t, g, p, r)
		sameAs(t, "used", p, r)
		fresh, _ := read(m)
		sameAs(t, "a second one", must(t, m), fresh)
	}
	for _, e := range []api.Errno{api.OK, api.ErrArg, api.ErrImport, api.ErrBounds} {
		if counts[e] < 100 {
			t.Errorf("%d modules with %v", counts[e], e)
		}
	}
}

// used sets globals of a place, and stores in its memory.
func used(t *testing.T, g maker, p *Place, r *reading) {
	for range g.below(20) {
		n, v := g.below(len(r.globals)+2), uint32(g.below(1<<31))
		switch {
		case n >= len(r.globals):
			setAs(t, p, uint32(n), v, api.ErrMissing)
		case r.m.Globals[n].Mut:
			setAs(t, p, uint32(n), v, api.OK)
			r.globals[n] = v
		default:
			setAs(t, p, uint32(n), v, api.ErrMut)
		}
		if len(r.bytes) == 0 {
			continue
		}
		at := g.below(len(r.bytes))
		r.bytes[at] = byte(v)
		if e := p.Memory().Store(api.OpStore8, uint32(at), 0, v); e != api.OK {
			t.Errorf("Store at %d: %v", at, e)
		}
	}
}

// P13.4: of a valid module whose imports the host has, only the offsets decide: with all of them 0, and room enough, it is made ready.
func TestOffsetsDecide(t *testing.T) {
	d := dice(6)
	g := maker{&d}
	bounds := 0
	for range 3000 {
		m := g.module()
		if _, e := New(m); e != api.ErrBounds {
			continue
		}
		bounds++
		for k := range m.Elems {
			m.Elems[k].Offset = number(0)
			m.Tables[0] = api.Limits{Min: max(m.Tables[0].Min, 4)}
		}
		for k := range m.Datas {
			m.Datas[k].Offset = number(0)
			m.Memories[0] = api.Limits{Min: max(m.Memories[0].Min, 1)}
		}
		newAs(t, "offsets of 0", m, api.OK)
	}
	if bounds < 200 {
		t.Errorf("only %d modules did not fit", bounds)
	}
}
