package place

import (
	"bytes"
	"math"
	"slices"
	"testing"

	"gimlet/api"
	"gimlet/module"
	"gimlet/valid"
)

// The chapter read a second time: a place is rows of words and bytes, laid item by item.

const noFunction = -1

type reading struct {
	m       api.Module
	hosts   []int
	globals []uint32
	table   []int64 // noFunction where there is none
	bytes   []byte
}

// read is what New makes of a module whose memory is small; and its error.
func read(m api.Module) (*reading, api.Errno) {
	if w := valid.Check(m); w != (api.Wrong{}) {
		return nil, api.ErrArg
	}
	r := &reading{m: cloned(m)}
	for _, i := range m.Imports {
		shape := m.Types[i.Type]
		switch {
		case i.Module+"."+i.Name == "host.getc" && shape.Params == 0 && shape.Results == 1:
			r.hosts = append(r.hosts, api.HostGet)
		case i.Module+"."+i.Name == "host.putc" && shape.Params == 1 && shape.Results == 0:
			r.hosts = append(r.hosts, api.HostPut)
		default:
			return nil, api.ErrImport
		}
	}
	for _, g := range m.Globals {
		r.globals = append(r.globals, uint32(g.Init[0].N))
	}
	for _, l := range m.Tables {
		r.table = slices.Repeat([]int64{noFunction}, int(l.Min))
	}
	for _, l := range m.Memories {
		r.bytes = make([]byte, int(l.Min)*pageBytes)
	}
	if !r.lay() {
		return nil, api.ErrBounds
	}
	return r, api.OK
}

// lay puts elements and data where they belong, one item at a time, and returns whether all of them fit.
func (r *reading) lay() bool {
	for _, l := range r.m.Elems {
		at := int64(uint32(l.Offset[0].N))
		if at > int64(len(r.table)) {
			return false
		}
		for _, f := range l.Funcs {
			if at == int64(len(r.table)) {
				return false
			}
			r.table[at] = int64(f)
			at++
		}
	}
	for _, d := range r.m.Datas {
		at := int64(uint32(d.Offset[0].N))
		if at > int64(len(r.bytes)) {
			return false
		}
		for _, b := range d.Bytes {
			if at == int64(len(r.bytes)) {
				return false
			}
			r.bytes[at] = b
			at++
		}
	}
	return true
}

// numbers are those of n items, a few behind them, and some that are far beyond.
func numbers(n int) []uint32 {
	var all []uint32
	for k := range n + 3 {
		all = append(all, uint32(k))
	}
	return append(all, 1<<16+1, 1<<20, 1<<31, math.MaxUint32-1, math.MaxUint32)
}

// sameAs holds all that a place tells against the second reading.
func sameAs(t *testing.T, what string, p *Place, r *reading) {
	t.Helper()
	if !module.Same(p.Module(), r.m) {
		t.Errorf("%s: the module is another one", what)
	}
	for _, n := range numbers(len(r.m.Imports) + len(r.m.Funcs)) {
		want := 0
		if int(n) < len(r.hosts) {
			want = r.hosts[n]
		}
		hostAs(t, p, n, want)
	}
	if p.Size() != uint32(len(r.table)) {
		t.Errorf("%s: Size() = %d; want %d", what, p.Size(), len(r.table))
	}
	for _, n := range numbers(len(r.table)) {
		switch {
		case int64(n) >= int64(len(r.table)):
			noEntry(t, p, n, api.ErrBounds)
		case r.table[n] == noFunction:
			noEntry(t, p, n, api.OK)
		default:
			entryAs(t, p, n, uint32(r.table[n]))
		}
	}
	for _, n := range numbers(len(r.globals)) {
		if int64(n) < int64(len(r.globals)) {
			globalAs(t, p, n, r.globals[n], api.OK)
		} else {
			globalAs(t, p, n, 0, api.ErrMissing)
		}
	}
	sameMemory(t, what, p, r)
	if t.Failed() {
		t.Fatal(what)
	}
}

func sameMemory(t *testing.T, what string, p *Place, r *reading) {
	t.Helper()
	mem := p.Memory()
	if mem == nil || len(r.m.Memories) == 0 {
		if mem != nil || len(r.m.Memories) != 0 {
			t.Errorf("%s: Memory() = %v, of %d memories", what, mem, len(r.m.Memories))
		}
		return
	}
	b, e := mem.Read(0, uint32(len(r.bytes)))
	if e != api.OK || !bytes.Equal(b, r.bytes) || int(mem.Pages())*pageBytes != len(r.bytes) {
		t.Errorf("%s: the memory's bytes are others", what)
	}
}
