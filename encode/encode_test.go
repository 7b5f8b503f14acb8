package encode

import (
	"bytes"
	"math"
	"slices"
	"strings"
	"testing"

	"gimlet/api"
	"gimlet/module"
)

func checkModule(t *testing.T, what string, m api.Module, want []byte) {
	t.Helper()
	if b, e := Module(m); !bytes.Equal(b, want) || e != api.OK {
		t.Errorf("%s: Module = %v, %v; want %v", what, b, e, want)
	}
}

func checkSection(t *testing.T, what string, m api.Module, id int, want []byte) {
	t.Helper()
	if b, e := Section(m, id); !bytes.Equal(b, want) || e != api.OK {
		t.Errorf("%s: Section %d = %v, %v; want %v", what, id, b, e, want)
	}
}

// headed puts a module's first eight bytes ahead of others.
func headed(b ...byte) []byte { return append([]byte{0, 97, 115, 109, 1, 0, 0, 0}, b...) }

// alone are modules that have one section alone (Funcs have two), with its bytes.
func alone() []struct {
	id   int
	m    api.Module
	want []byte
} {
	return []struct {
		id   int
		m    api.Module
		want []byte
	}{
		{1, api.Module{Types: []api.FuncType{{Params: 3, Results: 1}, {}, {Params: 1}}}, []byte{3, 96, 3, 127, 127, 127, 1, 127, 96, 0, 0, 96, 1, 127, 0}},
		{2, api.Module{Imports: []api.Import{{Module: "ab", Name: "c", Type: 5}, {Module: "", Name: "\u20ac", Type: 128}}}, []byte{2, 2, 'a', 'b', 1, 'c', 0, 5, 0, 3, 226, 130, 172, 0, 128, 1}},
		{4, api.Module{Tables: []api.Limits{{Min: 128}}}, []byte{1, 112, 0, 128, 1}},
		{4, api.Module{Tables: []api.Limits{{Min: 3, Max: 1 << 20, Capped: true}}}, []byte{1, 112, 1, 3, 128, 128, 64}},
		{4, api.Module{Tables: []api.Limits{{Capped: true}}}, []byte{1, 112, 1, 0, 0}},
		{5, api.Module{Memories: []api.Limits{{Min: 65536}}}, []byte{1, 0, 128, 128, 4}},
		{5, api.Module{Memories: []api.Limits{{Min: 4, Max: 4, Capped: true}}}, []byte{1, 1, 4, 4}},
		{6, api.Module{Globals: []api.Global{{Mut: true, Init: constant(-65)}, {Init: []api.Instr{{Op: api.OpGetGlobal, A: 2}}}, {}}}, []byte{3, 127, 1, 65, 191, 127, 11, 127, 0, 35, 2, 11, 127, 0, 11}},
		{7, api.Module{Exports: []api.Export{{Name: "x"}, {Name: "y", Kind: 1, Index: 2}, {Kind: 2, Index: 127}, {Name: "zz", Kind: 3, Index: 1 << 31}}}, []byte{4, 1, 'x', 0, 0, 1, 'y', 1, 2, 0, 2, 127, 2, 'z', 'z', 3, 128, 128, 128, 128, 8}},
		{8, api.Module{Started: true, Start: 300}, []byte{172, 2}},
		{9, api.Module{Elems: []api.Elem{{Offset: constant(1), Funcs: []uint32{7, 200}}, {}}}, []byte{2, 0, 65, 1, 11, 2, 7, 200, 1, 0, 11, 0}},
		{11, api.Module{Datas: []api.Data{{Offset: constant(2), Bytes: []byte{9, 0, 255}}, {}}}, []byte{2, 0, 65, 2, 11, 3, 9, 0, 255, 0, 11, 0}},
	}
}

// P8.1, P8.2: each section alone, byte for byte.
func TestAlone(t *testing.T) {
	for _, a := range alone() {
		checkModule(t, "alone", a.m, append(headed(byte(a.id), byte(len(a.want))), a.want...))
		for id := 1; id <= 11; id++ {
			if id == a.id {
				checkSection(t, "alone", a.m, id, a.want)
			} else {
				checkSection(t, "not there", a.m, id, nil)
			}
		}
		checkEncoded(t, "alone", a.m)
	}
}

// P8.1, P8.2: functions have two sections: their types, and their codes.
func TestFuncs(t *testing.T) {
	m := api.Module{Funcs: []api.Func{{Type: 200, Code: api.Code{Locals: 2, L: constant(3)}}, {}, {Type: 1, Code: api.Code{L: nops(2)}}}}
	types := []byte{3, 200, 1, 0, 1}
	codes := []byte{3, 6, 1, 2, 127, 65, 3, 11, 2, 0, 11, 4, 0, 1, 1, 11}
	checkModule(t, "functions", m, slices.Concat(headed(3, 5), types, []byte{10, 16}, codes))
	for id := 1; id <= 11; id++ {
		checkSection(t, "functions", m, id, map[int][]byte{3: types, 10: codes}[id])
	}
}

// P8.1, P8.2: a module with something everywhere, byte for byte.
func TestEverything(t *testing.T) {
	m := sample()
	want := [][]byte{
		1: slices.Concat([]byte{3, 96, 2, 127, 127, 1, 127, 96, 0, 0, 96, 254, 1}, bytes.Repeat([]byte{127}, 254), []byte{0}),
		2: {2, 4, 'h', 'o', 's', 't', 3, 'g', 'e', 't', 0, 1, 0, 3, 195, 169, 0, 0, 172, 2},
		3: {3, 1, 0, 2},
		4: {1, 112, 1, 2, 128, 128, 64},
		5: {1, 1, 1, 128, 128, 4},
		6: {3, 127, 1, 65, 127, 11, 127, 0, 65, 192, 0, 11, 127, 0, 11},
		7: append([]byte{4, 1, 'f', 1, 3, 1, 'f', 0, 1, 0, 2, 0, 13}, "a longer name\x03\x80\x80\x80\x80\x08"...),
		8: {4},
		9: {3, 0, 65, 7, 11, 3, 0, 1, 255, 255, 255, 255, 15, 0, 11, 0, 0, 1, 1, 11, 1, 5},
		10: {3, 24, 1, 3, 127, 65, 63, 54, 2, 172, 2, 14, 2, 3, 200, 1, 1, 17, 128, 1, 0, 4, 127, 11, 26, 11,
			2, 0, 11, 3, 0, 1, 11},
		11: {3, 0, 65, 8, 11, 3, 0, 255, 11, 0, 11, 0, 0, 1, 11, 3, 'a', 'b', 'c'},
	}
	all := headed()
	for id := 1; id <= 11; id++ {
		checkSection(t, "everything", m, id, want[id])
		all = slices.Concat(all, []byte{byte(id)}, readNumber(len(want[id])), want[id])
	}
	checkModule(t, "everything", m, all)
	for _, m := range wellFormed() {
		checkEncoded(t, "a module", m)
		if b, _ := Module(m); !bytes.Equal(b, readModule(m)) {
			t.Error("another module than the second reading's")
		}
	}
}

// P8.1, P8.2: sections of empty lists, nil or not, are omitted, and that of Start if it is not Started.
func TestOmitted(t *testing.T) {
	for k := range 512 {
		m := api.Module{}
		if k&1 != 0 {
			m.Types = []api.FuncType{}
		}
		if k&2 != 0 {
			m.Imports = make([]api.Import, 0, 3)
		}
		if k&4 != 0 {
			m.Funcs = []api.Func{}
		}
		if k&8 != 0 {
			m.Tables = make([]api.Limits, 1)[:0]
		}
		if k&16 != 0 {
			m.Memories = []api.Limits{}
		}
		if k&32 != 0 {
			m.Globals = []api.Global{}
		}
		if k&64 != 0 {
			m.Exports = make([]api.Export, 0, 1)
		}
		if k&128 != 0 {
			m.Elems = []api.Elem{}
		}
		if k&256 != 0 {
			m.Datas = []api.Data{}
		}
		checkModule(t, "empty lists", m, headed())
		for id := 1; id <= 11; id++ {
			checkSection(t, "empty lists", m, id, nil)
		}
		m.Started = true
		checkModule(t, "empty lists, Started", m, headed(8, 1, 0))
		checkSection(t, "empty lists, Started", m, 8, []byte{0})
	}
	// Lists within an item are there, empty or not.
	empty := api.Module{Elems: []api.Elem{{Offset: []api.Instr{}, Funcs: []uint32{}}}, Datas: []api.Data{{Offset: []api.Instr{}, Bytes: []byte{}}}, Funcs: []api.Func{{Code: api.Code{L: []api.Instr{}}}}}
	checkModule(t, "empty lists within", empty, headed(3, 2, 1, 0, 9, 4, 1, 0, 11, 0, 10, 4, 1, 2, 0, 11, 11, 4, 1, 0, 11, 0))
	m := sample()
	m.Started, m.Start = false, 0
	checkSection(t, "not Started", m, 8, nil)
	checkEncoded(t, "not Started", m)
	m.Started = true
	checkSection(t, "a Start of 0", m, 8, []byte{0})
	checkEncoded(t, "a Start of 0", m)
}

// Without one section the others are as they were.
func TestWithout(t *testing.T) {
	for _, drop := range []func(*api.Module){
		func(m *api.Module) { m.Types = nil },
		func(m *api.Module) { m.Imports = nil },
		func(m *api.Module) { m.Funcs = nil },
		func(m *api.Module) { m.Tables = nil },
		func(m *api.Module) { m.Memories = nil },
		func(m *api.Module) { m.Globals = nil },
		func(m *api.Module) { m.Exports = nil },
		func(m *api.Module) { m.Started, m.Start = false, 0 },
		func(m *api.Module) { m.Elems = nil },
		func(m *api.Module) { m.Datas = nil },
	} {
		for _, m := range []api.Module{bare(), sample()} {
			drop(&m)
			checkEncoded(t, "without one section", m)
		}
	}
}

// P8.2: numbers that no section has.
func TestSectionRange(t *testing.T) {
	for _, m := range wellFormed() {
		for _, id := range noSections() {
			if b, e := Section(m, id); b != nil || e != api.ErrRange {
				t.Errorf("Section %d = %v, %v", id, show(b), e)
			}
		}
	}
	// A module that has too many bytes has sections all the same.
	long := api.Module{Datas: []api.Data{{Bytes: make([]byte, 1<<20)}}}
	for _, id := range noSections() {
		if b, e := Section(long, id); b != nil || e != api.ErrRange {
			t.Errorf("Section %d = %v, %v", id, show(b), e)
		}
	}
}

// refused are modules that are not well-formed.
func refused() []struct {
	what string
	m    api.Module
	want api.Errno
} {
	long, tags := strings.Repeat("a", 1001), []api.Instr{{Op: api.OpBrTable, Tags: make([]uint32, 16385)}}
	return []struct {
		what string
		m    api.Module
		want api.Errno
	}{
		{"types", api.Module{Types: make([]api.FuncType, 16385)}, api.ErrMany},
		{"imports", api.Module{Imports: make([]api.Import, 16385)}, api.ErrMany},
		{"functions", api.Module{Funcs: make([]api.Func, 16385)}, api.ErrMany},
		{"tables", api.Module{Tables: make([]api.Limits, 2)}, api.ErrMany},
		{"memories", api.Module{Memories: make([]api.Limits, 2)}, api.ErrMany},
		{"globals", api.Module{Globals: make([]api.Global, 16385)}, api.ErrMany},
		{"exports", api.Module{Exports: make([]api.Export, 16385)}, api.ErrMany},
		{"elements", api.Module{Elems: make([]api.Elem, 16385)}, api.ErrMany},
		{"data", api.Module{Datas: make([]api.Data, 16385)}, api.ErrMany},
		{"functions of an element", api.Module{Elems: []api.Elem{{Funcs: make([]uint32, 16385)}}}, api.ErrMany},
		{"instructions", api.Module{Funcs: []api.Func{{Code: api.Code{L: nops(1<<18 + 1)}}}}, api.ErrMany},
		{"labels", api.Module{Globals: []api.Global{{Init: tags}}}, api.ErrMany},
		{"instructions in one another", api.Module{Elems: []api.Elem{{Offset: nest(nops(1), 900)}}}, api.ErrMany},
		{"many, long and wrong", api.Module{Tables: make([]api.Limits, 2), Exports: []api.Export{{Name: long, Kind: 4}}, Start: 1}, api.ErrMany},
		{"a module's name", api.Module{Imports: []api.Import{{Module: long}}}, api.ErrLong},
		{"an import's name", api.Module{Imports: []api.Import{{Name: long}}}, api.ErrLong},
		{"an export's name", api.Module{Exports: []api.Export{{Name: long}}}, api.ErrLong},
		{"long and wrong", api.Module{Exports: []api.Export{{Name: long, Kind: 4}}, Start: 1}, api.ErrLong},
		{"bytes", api.Module{Datas: []api.Data{{Bytes: make([]byte, 1<<19)}, {Bytes: make([]byte, 1<<19+1)}}}, api.ErrLong},
		{"a name that is no text", api.Module{Exports: []api.Export{{Name: "\xff"}}}, api.ErrArg},
		{"an import's name that is no text", api.Module{Imports: []api.Import{{Name: "\xed\xa0\x80"}}}, api.ErrArg},
		{"a type", api.Module{Types: []api.FuncType{{Params: 256}}}, api.ErrArg},
		{"a type's results", api.Module{Types: []api.FuncType{{Results: -1}}}, api.ErrArg},
		{"an import's type", api.Module{Imports: []api.Import{{Type: -1}}}, api.ErrArg},
		{"a function's type", api.Module{Funcs: []api.Func{{Type: 1 << 31}}}, api.ErrArg},
		{"a function's Locals", api.Module{Funcs: []api.Func{{Code: api.Code{Locals: 50001}}}}, api.ErrArg},
		{"a table", api.Module{Tables: []api.Limits{{Min: 1<<20 + 1}}}, api.ErrArg},
		{"a memory", api.Module{Memories: []api.Limits{{Min: 65537}}}, api.ErrArg},
		{"a memory from 2 to 1", api.Module{Memories: []api.Limits{{Min: 2, Max: 1, Capped: true}}}, api.ErrArg},
		{"a kind", api.Module{Exports: []api.Export{{Kind: 4}}}, api.ErrArg},
		{"another kind", api.Module{Exports: []api.Export{{Kind: -1}}}, api.ErrArg},
		{"no operation", api.Module{Funcs: []api.Func{{Code: api.Code{L: []api.Instr{{Op: 5}}}}}}, api.ErrArg},
		{"no operation in a global", api.Module{Globals: []api.Global{{Init: []api.Instr{{Op: api.OpIf, E: []api.Instr{{Op: -1}}}}}}}, api.ErrArg},
		{"a field too many in an element", api.Module{Elems: []api.Elem{{Offset: []api.Instr{{Op: api.OpConst, A: 1}}}}}, api.ErrArg},
		{"Results of 2 in data", api.Module{Datas: []api.Data{{Offset: []api.Instr{{Op: api.OpBlock, Results: 2}}}}}, api.ErrArg},
		{"a Start that is not Started", api.Module{Start: 1}, api.ErrArg},
	}
}

// P8.1, P8.2: the error of module.Check, ahead of ErrRange and of ErrLong for too many bytes, whatever else the module has.
func TestRefused(t *testing.T) {
	for _, r := range refused() {
		if e := module.Check(r.m); e != r.want {
			t.Fatalf("%s: Check = %v", r.what, e)
		}
		checkRefused(t, r.what, r.m, r.want)
		if len(r.m.Datas) == 0 {
			r.m.Datas = []api.Data{{Bytes: make([]byte, 1<<20)}}
			checkRefused(t, r.what+", and too many bytes", r.m, r.want)
		}
		if r.m.Start == 0 {
			r.m.Started, r.m.Start = true, math.MaxUint32
			checkRefused(t, r.what+", Started", r.m, r.want)
		}
	}
}

// The chapter's examples.
func TestExamples(t *testing.T) {
	checkModule(t, "a module with nothing", api.Module{}, []byte{0, 97, 115, 109, 1, 0, 0, 0})
	checkSection(t, "two types", api.Module{Types: []api.FuncType{{Params: 1}, {Results: 1}}}, 1, []byte{2, 96, 1, 127, 0, 96, 0, 1, 127})
	checkModule(t, "a memory of 1 to 2", api.Module{Memories: []api.Limits{{Min: 1, Max: 2, Capped: true}}}, []byte{0, 97, 115, 109, 1, 0, 0, 0, 5, 4, 1, 1, 1, 2})
	if b, e := Section(api.Module{}, 12); b != nil || e != api.ErrRange {
		t.Errorf("Section 12 = %v, %v", b, e)
	}
	if b, e := Section(api.Module{Memories: make([]api.Limits, 2)}, 5); b != nil || e != api.ErrMany {
		t.Errorf("two memories: %v, %v", b, e)
	}
}
