package encode

import (
	"bytes"
	"math"
	"slices"
	"strings"
	"testing"

	"gimlet/api"
	"gimlet/body"
	"gimlet/module"
)

// readNumber and the functions below are the chapter's table, said another way: instructions alone are left to body.
func readNumber(n int) []byte {
	if n < 128 {
		return []byte{byte(n)}
	}
	return append([]byte{byte(n%128 + 128)}, readNumber(n/128)...)
}

func readName(s string) []byte { return append(readNumber(len(s)), s...) }

func readWords(n int) []byte { return append(readNumber(n), strings.Repeat("\x7f", n)...) }

func readLimits(l api.Limits) []byte {
	if l.Capped {
		return slices.Concat([]byte{1}, readNumber(int(l.Min)), readNumber(int(l.Max)))
	}
	return append([]byte{0}, readNumber(int(l.Min))...)
}

func readList(l []api.Instr) []byte {
	b, e := body.Put(l)
	if e != api.OK {
		panic(e)
	}
	return b
}

func readCode(c api.Code) []byte {
	b, e := body.PutCode(c)
	if e != api.OK {
		panic(e)
	}
	return append(readNumber(len(b)), b...)
}

// readItems returns the bytes of each item of a section's list; that of Start is taken as a list of one, or none.
func readItems(m api.Module, id int) [][]byte {
	var out [][]byte
	add := func(parts ...[]byte) { out = append(out, slices.Concat(parts...)) }
	switch id {
	case 1:
		for _, t := range m.Types {
			add([]byte{96}, readWords(t.Params), readWords(t.Results))
		}
	case 2:
		for _, i := range m.Imports {
			add(readName(i.Module), readName(i.Name), []byte{0}, readNumber(i.Type))
		}
	case 3:
		for _, f := range m.Funcs {
			add(readNumber(f.Type))
		}
	case 4:
		for _, l := range m.Tables {
			add([]byte{112}, readLimits(l))
		}
	case 5:
		for _, l := range m.Memories {
			add(readLimits(l))
		}
	case 6:
		for _, g := range m.Globals {
			mut := map[bool]byte{false: 0, true: 1}[g.Mut]
			add([]byte{127, mut}, readList(g.Init))
		}
	case 7:
		for _, e := range m.Exports {
			add(readName(e.Name), readNumber(e.Kind), readNumber(int(e.Index)))
		}
	case 8:
		if m.Started {
			add(readNumber(int(m.Start)))
		}
	case 9:
		for _, e := range m.Elems {
			parts := [][]byte{{0}, readList(e.Offset), readNumber(len(e.Funcs))}
			for _, f := range e.Funcs {
				parts = append(parts, readNumber(int(f)))
			}
			add(parts...)
		}
	case 10:
		for _, f := range m.Funcs {
			add(readCode(f.Code))
		}
	case 11:
		for _, d := range m.Datas {
			add([]byte{0}, readList(d.Offset), readNumber(len(d.Bytes)), d.Bytes)
		}
	}
	return out
}

func readSection(m api.Module, id int) []byte {
	items := readItems(m, id)
	if len(items) == 0 {
		return nil
	}
	all := slices.Concat(items...)
	if id == 8 {
		return all
	}
	return append(readNumber(len(items)), all...)
}

func readModule(m api.Module) []byte {
	out := []byte{0, 97, 115, 109, 1, 0, 0, 0}
	for id := range 12 {
		if s := readSection(m, id); len(s) > 0 {
			out = slices.Concat(out, []byte{byte(id)}, readNumber(len(s)), s)
		}
	}
	return out
}

// show is as many bytes as a person can read.
func show(b []byte) []byte { return b[:min(len(b), 60)] }

// checkEncoded holds Module and Section against the second reading, and against one another (P8.3).
func checkEncoded(t *testing.T, what string, m api.Module) {
	t.Helper()
	out := []byte("\x00asm\x01\x00\x00\x00")
	for id := 1; id <= 11; id++ {
		want := readSection(m, id)
		b, e := Section(m, id)
		if !bytes.Equal(b, want) || e != api.OK {
			t.Fatalf("%s: Section %d = %v (%d), %v; want %v (%d)", what, id, show(b), len(b), e, show(want), len(want))
		}
		if len(b) > 0 {
			out = slices.Concat(out, []byte{byte(id)}, readNumber(len(b)), b)
		}
	}
	e := api.OK
	if len(out) > 1048576 {
		out, e = nil, api.ErrLong
	}
	if b, got := Module(m); !bytes.Equal(b, out) || got != e {
		t.Fatalf("%s: Module = %v (%d), %v; want %v (%d), %v", what, show(b), len(b), got, show(out), len(out), e)
	}
}

// checkRefused holds that Module and each Section return an error, and nothing else.
func checkRefused(t *testing.T, what string, m api.Module, want api.Errno) {
	t.Helper()
	if b, e := Module(m); b != nil || e != want {
		t.Errorf("%s: Module = %v, %v; want %v", what, show(b), e, want)
	}
	for _, id := range append(noSections(), 1, 2, 3, 4, 5, 6, 7, 8, 9, 10, 11) {
		if b, e := Section(m, id); b != nil || e != want {
			t.Errorf("%s: Section %d = %v, %v; want %v", what, id, show(b), e, want)
		}
	}
}

// noSections are numbers that no section has; many of them are one if their higher bits are cut off.
func noSections() []int {
	return []int{
		0, -1, -2, -11, -12, 12, 13, 14, 127, 128, 255, 256, 257, 267, 65536, 65537, -255, -245, -65535,
		1 << 31, 1<<31 - 1, 1 << 32, 1<<32 + 1, 1<<32 + 11, -1 << 32, -1<<32 + 1, math.MinInt, math.MinInt + 1, math.MaxInt, math.MaxInt - 1,
	}
}

func nops(n int) []api.Instr { return slices.Repeat([]api.Instr{{Op: api.OpNop}}, n) }

func constant(n int32) []api.Instr { return []api.Instr{{Op: api.OpConst, N: n}} }

// nest puts instructions into n others in one another, by turns into L and E.
func nest(l []api.Instr, n int) []api.Instr {
	for k := range n {
		if k%2 == 0 {
			l = []api.Instr{{Op: api.OpIf, L: l}}
		} else {
			l = []api.Instr{{Op: api.OpIf, E: l}}
		}
	}
	return l
}

// sampleList has instructions with each kind of field, in lists in one another, so many deep.
func sampleList(deep int, n int32) []api.Instr {
	l := []api.Instr{
		{Op: api.OpConst, N: n}, {Op: api.OpStore, A: 2, B: 300}, {Op: api.OpBrTable, Tags: []uint32{3, 200}, A: 1},
		{Op: api.OpIndirect, A: 128}, {Op: api.OpIf, Results: 1}, {Op: api.OpDrop},
	}
	if deep > 0 {
		l = append(l, api.Instr{Op: api.OpBlock, Results: 1, L: sampleList(deep-1, n)}, api.Instr{Op: api.OpIf, L: sampleList(deep-1, n+1), E: sampleList(deep-1, n-1)})
	}
	return l
}

// sample is a module with several items in each list that may have them.
func sample() api.Module {
	return api.Module{
		Types:    []api.FuncType{{Params: 2, Results: 1}, {}, {Params: 254}},
		Imports:  []api.Import{{Module: "host", Name: "get", Type: 1}, {Name: "\u00e9\x00", Type: 300}},
		Funcs:    []api.Func{{Type: 1, Code: api.Code{Locals: 3, L: sampleList(0, 63)}}, {}, {Type: 2, Code: api.Code{L: nops(1)}}},
		Tables:   []api.Limits{{Min: 2, Max: 1 << 20, Capped: true}},
		Memories: []api.Limits{{Min: 1, Max: 65536, Capped: true}},
		Globals:  []api.Global{{Mut: true, Init: constant(-1)}, {Init: constant(64)}, {}},
		Exports:  []api.Export{{Name: "f", Kind: api.KindTable, Index: 3}, {Name: "f", Index: 1}, {Kind: api.KindMemory}, {Name: "a longer name", Kind: api.KindGlobal, Index: 1 << 31}},
		Started:  true,
		Start:    4,
		Elems:    []api.Elem{{Offset: constant(7), Funcs: []uint32{0, 1, math.MaxUint32}}, {}, {Offset: nops(2), Funcs: []uint32{5}}},
		Datas:    []api.Data{{Offset: constant(8), Bytes: []byte{0, 255, 11}}, {}, {Offset: nops(1), Bytes: []byte("abc")}},
	}
}

// bare is a module of one item in each list, with nothing in it.
func bare() api.Module {
	return api.Module{
		Types: make([]api.FuncType, 1), Imports: make([]api.Import, 1), Funcs: make([]api.Func, 1),
		Tables: make([]api.Limits, 1), Memories: make([]api.Limits, 1), Globals: make([]api.Global, 1),
		Exports: make([]api.Export, 1), Started: true, Elems: make([]api.Elem, 1), Datas: make([]api.Data, 1),
	}
}

// deep are modules of one list each, with instructions in lists in one another, so many deep.
func deep(n int) []api.Module {
	l := sampleList(n, 5)
	return []api.Module{
		{Funcs: []api.Func{{Code: api.Code{L: l}}}}, {Globals: []api.Global{{Init: l}}},
		{Elems: []api.Elem{{Offset: l}}}, {Datas: []api.Data{{Offset: l}}},
	}
}

// wellFormed are modules of all sorts that have bytes.
func wellFormed() []api.Module {
	out := append(deep(2), api.Module{}, bare(), sample(), api.Module{Types: []api.FuncType{}, Funcs: []api.Func{}})
	for _, m := range out {
		if module.Check(m) != api.OK {
			panic("not well-formed")
		}
	}
	return out
}
