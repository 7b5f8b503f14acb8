package decode

import (
	"fmt"
	"math"
	"slices"
	"testing"

	"gimlet/api"
	"gimlet/encode"
	"gimlet/leb"
	"gimlet/module"
)

func faultAt(e api.Errno, at int) api.Fault { return api.Fault{Err: e, At: at} }

// headed puts a module's first eight bytes ahead of others.
func headed(parts ...[]byte) []byte {
	return append([]byte{0, 97, 115, 109, 1, 0, 0, 0}, slices.Concat(parts...)...)
}

// section has a number, a size, and its own bytes.
func section(id byte, own ...byte) []byte {
	return slices.Concat([]byte{id}, leb.PutU(uint32(len(own))), own)
}

// named is a name's bytes, whether it is a text or not.
func named(s string) []byte { return append(leb.PutU(uint32(len(s))), s...) }

func show(b []byte) string {
	if len(b) > 60 {
		return fmt.Sprintf("%v .. (%d)", b[:60], len(b))
	}
	return fmt.Sprint(b)
}

// check holds Module and Sections against the second reading, and what Module returns against P9.3.
func check(t *testing.T, b []byte) {
	t.Helper()
	m, f := Module(b)
	want, wantFault := readModule(b)
	if f != wantFault || !module.Same(m, want) {
		t.Fatalf("Module(%s) = %.200v, %v; want %.200v, %v", show(b), m, f, want, wantFault)
	}
	l, lf := Sections(b)
	wantChunks, wantFault := readSections(b)
	if lf != wantFault || !slices.Equal(l, wantChunks) {
		t.Fatalf("Sections(%s) = %v, %v; want %v, %v", show(b), l, lf, wantChunks, wantFault)
	}
	if f.At < 0 || f.At > len(b) || lf.At < 0 || lf.At > len(b) || f.Err == api.OK && f.At != 0 || lf.Err == api.OK && lf.At != 0 {
		t.Fatalf("%s: faults at %d, %d", show(b), f.At, lf.At)
	}
	if f.Err == api.OK {
		checkThereAndBack(t, b, m)
	}
}

// checkThereAndBack holds that what has been decoded is well-formed, encoded with no more bytes, and decoded from these as the same.
func checkThereAndBack(t *testing.T, b []byte, m api.Module) {
	t.Helper()
	if e := module.Check(m); e != api.OK {
		t.Fatalf("%s is decoded as what is not well-formed: %v", show(b), e)
	}
	short, e := encode.Module(m)
	if e != api.OK || len(short) > len(b) {
		t.Fatalf("%s is encoded as %s, %v", show(b), show(short), e)
	}
	if again, f := Module(short); f != (api.Fault{}) || !module.Same(again, m) {
		t.Fatalf("%s, encoded as %s, is decoded as another one: %v", show(b), show(short), f)
	}
}

// checkIs holds that bytes are a module.
func checkIs(t *testing.T, what string, b []byte, want api.Module) {
	t.Helper()
	if m, f := Module(b); f != (api.Fault{}) || !module.Same(m, want) {
		t.Fatalf("%s: Module(%s) = %.300v, %v; want %.300v", what, show(b), m, f, want)
	}
	check(t, b)
}

// checkFault holds that bytes are no module.
func checkFault(t *testing.T, what string, b []byte, want api.Fault) {
	t.Helper()
	if m, f := Module(b); f != want || !module.Same(m, api.Module{}) {
		t.Fatalf("%s: Module(%s) = %.300v, %v; want %v", what, show(b), m, f, want)
	}
	check(t, b)
}

// checkNoSections holds that bytes have no sections, whatever is in these.
func checkNoSections(t *testing.T, what string, b []byte, want api.Fault) {
	t.Helper()
	if l, f := Sections(b); f != want || len(l) > 0 {
		t.Fatalf("%s: Sections(%s) = %v, %v; want %v", what, show(b), l, f, want)
	}
	checkFault(t, what, b, want)
}

// checkInside holds that the bytes of a section, behind others, have a fault at a place among them: also if others follow, right or wrong, which the section can't reach.
func checkInside(t *testing.T, what string, front []byte, id byte, own []byte, e api.Errno, at int) {
	t.Helper()
	b := headed(front, section(id, own...))
	want := faultAt(e, len(b)-len(own)+at)
	for _, behind := range [][]byte{nil, {0, 1, 0}, {12}, {11, 200}, slices.Repeat([]byte{127}, 300), slices.Repeat([]byte{0}, 300), slices.Repeat([]byte{1}, 300), slices.Repeat([]byte{11}, 300)} {
		checkFault(t, what, append(slices.Clone(b), behind...), want)
	}
	if l, f := Sections(b); f != (api.Fault{}) || len(l) == 0 || l[len(l)-1] != (api.Chunk{ID: int(id), At: len(b) - len(own), End: len(b)}) {
		t.Fatalf("%s: Sections(%s) = %v, %v", what, show(b), l, f)
	}
}

// longer are the bytes of a number in all the ways in which leb can have it, the shortest first.
func longer(n uint32) [][]byte {
	out := [][]byte{leb.PutU(n)}
	for last := out[0]; len(last) < 5; {
		last = slices.Clone(last)
		last[len(last)-1] |= 128
		last = append(last, 0)
		out = append(out, last)
	}
	return out
}

// tooLong are bytes that leb refuses, each at the fifth one.
func tooLong() [][]byte {
	return [][]byte{{128, 128, 128, 128, 128}, {255, 255, 255, 255, 16}, {129, 128, 128, 128, 128, 0}, {255, 255, 255, 255, 255, 255}, {128, 128, 128, 128, 127}}
}

// unended are bytes that could begin a number.
func unended() [][]byte {
	return [][]byte{{}, {128}, {255, 128}, {128, 128, 128}, {255, 255, 255, 255}}
}

func nops(n int) []api.Instr { return slices.Repeat([]api.Instr{{Op: api.OpNop}}, n) }

func constant(n int32) []api.Instr { return []api.Instr{{Op: api.OpConst, N: n}} }

// sampleList has instructions with each kind of field, in lists in one another, so many deep.
func sampleList(deep int, n int32) []api.Instr {
	l := []api.Instr{
		{Op: api.OpConst, N: n}, {Op: api.OpStore, A: 2, B: 300}, {Op: api.OpBrTable, Tags: []uint32{3, 200}, A: 1},
		{Op: api.OpIndirect, A: 128}, {Op: api.OpIf, Results: 1}, {Op: api.OpDrop}, {Op: api.OpSize},
	}
	if deep > 0 {
		l = append(l, api.Instr{Op: api.OpLoop, Results: 1, L: sampleList(deep-1, n)}, api.Instr{Op: api.OpIf, L: sampleList(deep-1, n+1), E: sampleList(deep-1, n-1)})
	}
	return l
}

// sample is a module with several items in each list that may have them.
func sample() api.Module {
	return api.Module{
		Types:    []api.FuncType{{Params: 2, Results: 1}, {}, {Params: 130}},
		Imports:  []api.Import{{Module: "host", Name: "get", Type: 1}, {Name: "\u00e9\x00", Type: 300}},
		Funcs:    []api.Func{{Type: 1, Code: api.Code{Locals: 3, L: sampleList(1, 63)}}, {}, {Type: 2, Code: api.Code{L: nops(1)}}},
		Tables:   []api.Limits{{Min: 2, Max: 1 << 20, Capped: true}},
		Memories: []api.Limits{{Min: 1, Max: 65536, Capped: true}},
		Globals:  []api.Global{{Mut: true, Init: constant(-1)}, {Init: constant(64)}, {}},
		Exports:  []api.Export{{Name: "f", Kind: api.KindTable, Index: 3}, {Name: "f", Index: 1}, {Kind: api.KindMemory}, {Name: "\u20ac and more", Kind: api.KindGlobal, Index: 1 << 31}},
		Started:  true,
		Start:    4,
		Elems:    []api.Elem{{Offset: constant(7), Funcs: []uint32{0, 1, math.MaxUint32}}, {}, {Offset: nops(2), Funcs: []uint32{5}}},
		Datas:    []api.Data{{Offset: constant(8), Bytes: []byte{0, 255, 11}}, {}, {Offset: nops(1), Bytes: []byte("abc")}},
	}
}

// bare is a module of one item in each list, with nothing in it.
func bare() api.Module {
	return api.Module{
		Types: make([]api.FuncType, 1), Imports: make([]api.Import, 1), Funcs: make([]api.Func, 1),
		Tables: make([]api.Limits, 1), Memories: make([]api.Limits, 1), Globals: make([]api.Global, 1),
		Exports: make([]api.Export, 1), Started: true, Elems: make([]api.Elem, 1), Datas: make([]api.Data, 1),
	}
}

// encoded is a module's bytes.
func encoded(m api.Module) []byte {
	b, e := encode.Module(m)
	if e != api.OK {
		panic(e)
	}
	return b
}
