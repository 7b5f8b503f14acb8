package encode

import (
	"bytes"
	"math"
	"runtime"
	"slices"
	"strconv"
	"strings"
	"testing"

	"gimlet/api"
	"gimlet/leb"
)

// lengths are numbers on both sides of where leb takes a byte more.
func lengths() []int { return []int{0, 1, 126, 127, 128, 129, 16382, 16383, 16384} }

// indices are such numbers up to the greatest that there is.
func indices() []uint32 {
	return []uint32{0, 1, 127, 128, 255, 256, 16383, 16384, 65535, 65536, 1<<21 - 1, 1 << 21, 1<<28 - 1, 1 << 28, 1<<31 - 1, 1 << 31, 1<<32 - 2, 1<<32 - 1}
}

func numbered(what string, n int) string { return what + " " + strconv.Itoa(n) }

// P8.1, P8.2: numbers of items, at each length that leb gives them.
func TestManyItems(t *testing.T) {
	for _, n := range lengths() {
		for id, m := range map[int]api.Module{
			1: {Types: slices.Repeat([]api.FuncType{{Results: 1}}, n)},
			2: {Imports: slices.Repeat([]api.Import{{Name: "i"}}, n)},
			3: {Funcs: make([]api.Func, n)},
			6: {Globals: make([]api.Global, n)},
			7: {Exports: make([]api.Export, n)},
			9: {Elems: make([]api.Elem, n)},
			// The codes stand behind the number of functions, which 3 has, too.
			10: {Funcs: slices.Repeat([]api.Func{{Type: 1, Code: api.Code{Locals: 1}}}, n)},
			11: {Datas: make([]api.Data, n)},
		} {
			checkEncoded(t, numbered("items of a list:", n), m)
			b, _ := Section(m, id)
			if n > 0 && !bytes.HasPrefix(b, leb.PutU(uint32(n))) {
				t.Errorf("%d items of section %d: %v", n, id, show(b))
			}
		}
		checkEncoded(t, numbered("functions of elements:", n), api.Module{Elems: []api.Elem{{Funcs: []uint32{1}}, {Funcs: make([]uint32, n)}}})
		checkEncoded(t, numbered("words taken:", n%256), api.Module{Types: []api.FuncType{{}, {Params: n % 256}}})
		checkEncoded(t, numbered("labels:", n), api.Module{Funcs: []api.Func{{Code: api.Code{L: []api.Instr{{Op: api.OpBrTable, Tags: make([]uint32, n)}}}}}})
	}
	b, _ := Section(api.Module{Funcs: make([]api.Func, 16384)}, 3)
	if want := append([]byte{128, 128, 1}, make([]byte, 16384)...); !bytes.Equal(b, want) {
		t.Errorf("16,384 functions: %v", show(b))
	}
}

// P8.1, P8.2: sizes of sections, of code, of names and of data, on both sides of where they take a byte more.
func TestSizes(t *testing.T) {
	for _, edge := range []int{0, 128, 1000, 16384, 1 << 17} {
		for n := max(0, edge-12); n < edge+3; n++ {
			m := api.Module{Datas: []api.Data{{Bytes: bytes.Repeat([]byte{1, 2, 200}, n/3+1)[:n]}}}
			checkEncoded(t, numbered("bytes of data:", n), m)
			checkEncoded(t, numbered("instructions of a function:", n), api.Module{Funcs: []api.Func{{}, {Code: api.Code{Locals: 5, L: nops(n)}}}})
			checkEncoded(t, numbered("instructions of a global:", n), api.Module{Globals: []api.Global{{Init: nops(n)}}})
			if n <= 1000 {
				s := strings.Repeat("n", n)
				checkEncoded(t, numbered("bytes of a name:", n), api.Module{Imports: []api.Import{{Module: s, Name: "a"}, {Module: "a", Name: s}}, Exports: []api.Export{{Name: s}}})
			}
		}
	}
	size := func(n int) []byte {
		b, _ := Module(api.Module{Datas: []api.Data{{Bytes: make([]byte, n)}}})
		return b[8:min(len(b), 20)]
	}
	for _, p := range []struct {
		n    int
		want []byte
	}{
		{0, []byte{11, 4, 1, 0, 11, 0}},
		{123, []byte{11, 127, 1, 0, 11, 123, 0, 0, 0, 0, 0, 0}},
		{124, []byte{11, 128, 1, 1, 0, 11, 124, 0, 0, 0, 0, 0}},
		{127, []byte{11, 131, 1, 1, 0, 11, 127, 0, 0, 0, 0, 0}},
		{128, []byte{11, 133, 1, 1, 0, 11, 128, 1, 0, 0, 0, 0}},
		{16378, []byte{11, 255, 127, 1, 0, 11, 250, 127, 0, 0, 0, 0}},
		{16379, []byte{11, 128, 128, 1, 1, 0, 11, 251, 127, 0, 0, 0}},
		{16384, []byte{11, 134, 128, 1, 1, 0, 11, 128, 128, 1, 0, 0}},
	} {
		if b := size(p.n); !bytes.Equal(b, p.want) {
			t.Errorf("%d bytes of data: %v, want %v", p.n, b, p.want)
		}
	}
}

// P8.1, P8.2: each number that an item has, at each length that leb gives it.
func TestIndices(t *testing.T) {
	for _, n := range indices() {
		text := leb.PutU(n)
		for _, p := range []struct {
			id    int
			m     api.Module
			front []byte
		}{
			{7, api.Module{Exports: []api.Export{{Index: n}}}, []byte{1, 0, 0}},
			{8, api.Module{Started: true, Start: n}, nil},
			{9, api.Module{Elems: []api.Elem{{Funcs: []uint32{n}}}}, []byte{1, 0, 11, 1}},
			{9, api.Module{Elems: []api.Elem{{Funcs: []uint32{128, n}}}}, []byte{1, 0, 11, 2, 128, 1}},
		} {
			checkSection(t, numbered("an index", int(n)), p.m, p.id, append(p.front, text...))
			checkEncoded(t, numbered("an index", int(n)), p.m)
		}
		checkEncoded(t, numbered("A", int(n)), api.Module{Globals: []api.Global{{Init: []api.Instr{{Op: api.OpGetGlobal, A: n}, {Op: api.OpConst, N: int32(n)}}}}})
		if n < 1<<31 {
			checkSection(t, numbered("a type of an import", int(n)), api.Module{Imports: []api.Import{{Type: int(n)}}}, 2, append([]byte{1, 0, 0, 0}, text...))
			checkSection(t, numbered("a type of a function", int(n)), api.Module{Funcs: []api.Func{{Type: int(n)}}}, 3, append([]byte{1}, text...))
		}
		checkLimits(t, n)
	}
	checkSection(t, "the greatest", api.Module{Started: true, Start: math.MaxUint32}, 8, []byte{255, 255, 255, 255, 15})
}

func checkLimits(t *testing.T, n uint32) {
	t.Helper()
	for _, l := range []api.Limits{{Min: n}, {Min: n, Max: n, Capped: true}, {Max: n, Capped: true}} {
		if n <= 65536 {
			checkEncoded(t, numbered("pages", int(n)), api.Module{Memories: []api.Limits{l}})
		}
		if n <= 1<<20 {
			checkEncoded(t, numbered("places", int(n)), api.Module{Tables: []api.Limits{l}})
		}
	}
}

// The greatest of all: places of a table, pages of a memory.
func TestGreatestLimits(t *testing.T) {
	for _, n := range []uint32{1 << 20, 1<<20 - 1, 65536, 65535, 65537} {
		checkLimits(t, n)
	}
}

// padded adds data to a module, so that it has so many bytes in all.
func padded(m api.Module, size int) api.Module {
	m.Datas = append(slices.Clone(m.Datas), api.Data{})
	pad := &m.Datas[len(m.Datas)-1]
	pad.Bytes = make([]byte, size-30-len(readModule(m)))
	// The lengths of the sizes around them are known only now.
	pad.Bytes = make([]byte, len(pad.Bytes)+size-len(readModule(m)))
	return m
}

// P8.1: just 2^20 bytes, and one more, whichever section has most of them.
func TestLong(t *testing.T) {
	code := api.Code{L: nops(1 << 18)}
	for _, m := range []api.Module{
		{}, bare(), sample(), {Funcs: []api.Func{{Code: code}, {Code: code}, {Code: code}}},
		{Globals: []api.Global{{Init: nops(1 << 18)}, {Init: nops(1 << 18)}}},
		{Imports: slices.Repeat([]api.Import{{Module: strings.Repeat("m", 1000), Name: strings.Repeat("n", 1000)}}, 520)},
		{Exports: slices.Repeat([]api.Export{{Name: strings.Repeat("x", 1000)}}, 1040)},
		{Elems: slices.Repeat([]api.Elem{{Funcs: slices.Repeat([]uint32{math.MaxUint32}, 1000)}}, 200)},
		{Types: slices.Repeat([]api.FuncType{{Params: 255}}, 4000)},
	} {
		fits := padded(m, 1<<20)
		checkEncoded(t, "2^20 bytes", fits)
		if b, e := Module(fits); len(b) != 1<<20 || e != api.OK {
			t.Errorf("2^20 bytes: %d, %v", len(b), e)
		}
		for _, more := range []int{1, 2, 18} { // with 19, an empty module's data would be too long by themselves
			long := padded(m, 1<<20+more)
			if b, e := Module(long); b != nil || e != api.ErrLong {
				t.Errorf("2^20 + %d bytes: %d, %v", more, len(b), e)
			}
			checkEncoded(t, "more than 2^20 bytes", long) // its sections are there
		}
	}
}

// P8.1: one byte more in any section makes the whole too long.
func TestOneMore(t *testing.T) {
	fits := padded(sample(), 1<<20)
	for what, grow := range map[string]func(*api.Module){
		"a type":           func(m *api.Module) { m.Types[1].Params = 1 },
		"an import":        func(m *api.Module) { m.Imports[1].Module = "x" },
		"a function":       func(m *api.Module) { m.Funcs[1].Type = 128 },
		"a table":          func(m *api.Module) { m.Tables[0].Min = 128 },
		"a memory":         func(m *api.Module) { m.Memories[0].Min = 128 },
		"a global":         func(m *api.Module) { m.Globals[2].Init = nops(1) },
		"an export":        func(m *api.Module) { m.Exports[2].Name = "x" },
		"the start":        func(m *api.Module) { m.Start = 128 },
		"an element":       func(m *api.Module) { m.Elems[1].Funcs = []uint32{0} },
		"a code":           func(m *api.Module) { m.Funcs[1].Code.L = nops(1) },
		"data":             func(m *api.Module) { m.Datas[1].Bytes = []byte{0} },
		"the offset of it": func(m *api.Module) { m.Datas[1].Offset = nops(1) },
	} {
		m := fits
		m.Types, m.Imports, m.Funcs = slices.Clone(m.Types), slices.Clone(m.Imports), slices.Clone(m.Funcs)
		m.Tables, m.Memories, m.Globals = slices.Clone(m.Tables), slices.Clone(m.Memories), slices.Clone(m.Globals)
		m.Exports, m.Elems, m.Datas = slices.Clone(m.Exports), slices.Clone(m.Elems), slices.Clone(m.Datas)
		grow(&m)
		if n := len(readModule(m)); n != 1<<20+1 {
			t.Fatalf("%s: %d bytes", what, n)
		}
		if b, e := Module(m); b != nil || e != api.ErrLong {
			t.Errorf("one byte more in %s: %d, %v", what, len(b), e)
		}
	}
}

// P8.2: a section may have more bytes than a module.
func TestLongSections(t *testing.T) {
	name := strings.Repeat("l", 1000)
	for id, m := range map[int]api.Module{
		1:  {Types: slices.Repeat([]api.FuncType{{Params: 255, Results: 1}}, 16384)},
		2:  {Imports: slices.Repeat([]api.Import{{Module: name, Name: name}}, 1100)},
		6:  {Globals: slices.Repeat([]api.Global{{Init: nops(1 << 18)}}, 9)},
		7:  {Exports: slices.Repeat([]api.Export{{Name: name, Index: 9}}, 2100)},
		9:  {Elems: slices.Repeat([]api.Elem{{Funcs: slices.Repeat([]uint32{math.MaxUint32}, 16384)}}, 30)},
		10: {Funcs: slices.Repeat([]api.Func{{Code: api.Code{L: slices.Repeat([]api.Instr{{Op: api.OpConst, N: math.MinInt32}}, 1<<18)}}}, 3)},
		11: {Datas: slices.Repeat([]api.Data{{Offset: nops(1 << 17), Bytes: make([]byte, 1000)}}, 20)},
	} {
		checkEncoded(t, "a long section", m)
		if b, e := Section(m, id); len(b) < 2*api.MaxBytes || e != api.OK {
			t.Errorf("section %d: %d, %v", id, len(b), e)
		}
	}
}

// What is too long by far is refused without all its bytes being made.
func TestFarTooLong(t *testing.T) {
	m := api.Module{Elems: slices.Repeat([]api.Elem{{Funcs: slices.Repeat([]uint32{math.MaxUint32}, 16384)}}, 16384)}
	var before, after runtime.MemStats
	runtime.ReadMemStats(&before)
	b, e := Module(m)
	runtime.ReadMemStats(&after)
	if b != nil || e != api.ErrLong {
		t.Errorf("%d, %v", len(b), e)
	}
	if used := after.TotalAlloc - before.TotalAlloc; used > 64*api.MaxBytes {
		t.Errorf("%d bytes were used", used)
	}
}
