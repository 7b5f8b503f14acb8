package decode

import (
	"bytes"
	"math"
	"slices"
	"strings"
	"testing"

	"gimlet/api"
	"gimlet/encode"
	"gimlet/module"
)

// checkBack holds that what encode returns is decoded as it was, and has the sections that encode says it has.
func checkBack(t *testing.T, what string, m api.Module) {
	t.Helper()
	b, e := encode.Module(m)
	if e != api.OK {
		t.Fatalf("%s: %v", what, e)
	}
	checkIs(t, what, b, m)
	l, _ := Sections(b)
	for id := 1; id <= 11; id++ {
		own, _ := encode.Section(m, id)
		if len(own) == 0 {
			continue
		}
		if len(l) == 0 || l[0].ID != id || !bytes.Equal(b[l[0].At:l[0].End], own) {
			t.Fatalf("%s: Sections(%s) = %v: section %d", what, show(b), l, id)
		}
		l = l[1:]
	}
	if len(l) > 0 {
		t.Fatalf("%s: Sections(%s) has more: %v", what, show(b), l)
	}
}

// parts are what takes each list, or Start, out of a module alone.
func parts() []func(from api.Module, to *api.Module) {
	return []func(from api.Module, to *api.Module){
		func(from api.Module, to *api.Module) { to.Types = from.Types },
		func(from api.Module, to *api.Module) { to.Imports = from.Imports },
		func(from api.Module, to *api.Module) { to.Funcs = from.Funcs },
		func(from api.Module, to *api.Module) { to.Tables = from.Tables },
		func(from api.Module, to *api.Module) { to.Memories = from.Memories },
		func(from api.Module, to *api.Module) { to.Globals = from.Globals },
		func(from api.Module, to *api.Module) { to.Exports = from.Exports },
		func(from api.Module, to *api.Module) { to.Started, to.Start = from.Started, from.Start },
		func(from api.Module, to *api.Module) { to.Elems = from.Elems },
		func(from api.Module, to *api.Module) { to.Datas = from.Datas },
	}
}

// P9.3: modules with one list alone, with each choice of lists, with nothing, and with something everywhere.
func TestBack(t *testing.T) {
	for _, m := range []api.Module{{}, {Started: true}, bare(), sample()} {
		checkBack(t, "a module", m)
	}
	all := parts()
	for _, from := range []api.Module{bare(), sample()} {
		for choice := range 1 << len(all) {
			m := api.Module{}
			for k, part := range all {
				if choice>>k&1 == 1 {
					part(from, &m)
				}
			}
			checkBack(t, "a choice of lists", m)
		}
	}
}

// P9.3: each field of each item, at its edges.
func TestBackEdges(t *testing.T) {
	for _, n := range []uint32{0, 1, 2, 63, 64, 127, 128, 255, 256, 16383, 16384, 65535, 65536, 1<<20 - 1, 1 << 20, 1<<21 - 1, 1 << 21, 1<<28 - 1, 1 << 28, 1<<31 - 1, 1 << 31, 1<<32 - 2, 1<<32 - 1} {
		lists := []api.Instr{{Op: api.OpConst, N: int32(n)}, {Op: api.OpLoad, A: n, B: n}, {Op: api.OpBrTable, Tags: []uint32{n, 0, n}, A: n}, {Op: api.OpIndirect, A: n}}
		m := api.Module{
			Globals: []api.Global{{Init: lists}, {Mut: true}}, Exports: []api.Export{{Kind: int(n % 4), Index: n}}, Started: true, Start: n,
			Elems: []api.Elem{{Offset: lists, Funcs: []uint32{n, 1, n}}}, Datas: []api.Data{{Offset: lists, Bytes: []byte{byte(n)}}},
		}
		if n <= 1<<20 {
			m.Tables = []api.Limits{{Min: n, Max: 1 << 20, Capped: true}}
		}
		if n <= 65536 {
			m.Memories = []api.Limits{{Max: n, Capped: true}}
		}
		if n < 1<<31 {
			m.Imports = []api.Import{{Type: int(n)}, {Name: "\u00e9"}}
			m.Funcs = []api.Func{{Type: int(n), Code: api.Code{Locals: min(int(n), 50000), L: lists}}, {}}
		}
		if n < 256 {
			m.Types = []api.FuncType{{Params: int(n), Results: 1}, {Params: int(n)}}
		}
		checkBack(t, "edges", m)
	}
	for _, n := range []int{0, 1, 127, 128, 999, 1000} {
		s := strings.Repeat("n", n)
		checkBack(t, "names", api.Module{Imports: []api.Import{{Module: s, Name: "a"}, {Module: "b", Name: s}}, Exports: []api.Export{{Name: s}, {Name: s, Kind: 1}}})
	}
	for op := range 256 {
		m := api.Module{Funcs: []api.Func{{Code: api.Code{L: []api.Instr{{Op: op}}}}}, Globals: []api.Global{{Init: []api.Instr{{Op: op}}}}}
		if module.Check(m) == api.OK {
			checkBack(t, "an operation", m)
		}
	}
}

// nest puts instructions into n others in one another, by turns into L and E.
func nest(l []api.Instr, n int) []api.Instr {
	for k := range n {
		if k%2 == 0 {
			l = []api.Instr{{Op: api.OpIf, L: l}}
		} else {
			l = []api.Instr{{Op: api.OpIf, E: l, L: nops(1)}}
		}
	}
	return l
}

// P9.3: as deep, and as much, as there may be.
func TestBackGreat(t *testing.T) {
	t.Parallel()
	for _, l := range [][]api.Instr{sampleList(3, 5), nest(constant(-1), 899), nops(1 << 18), {{Op: api.OpBrTable, Tags: slices.Repeat([]uint32{300}, 16384)}}} {
		for _, m := range []api.Module{{Funcs: []api.Func{{Code: api.Code{L: l}}, {}}}, {Globals: []api.Global{{Init: l}, {}}}, {Elems: []api.Elem{{Offset: l}, {}}}, {Datas: []api.Data{{Offset: l}, {}}}} {
			checkBack(t, "great instructions", m)
		}
	}
	code := api.Code{Locals: 50000, L: slices.Repeat([]api.Instr{{Op: api.OpConst, N: math.MinInt32}}, 1000)}
	for _, m := range []api.Module{
		{Types: slices.Repeat([]api.FuncType{{Params: 255, Results: 1}}, 4000)},
		{Imports: slices.Repeat([]api.Import{{Module: strings.Repeat("m", 1000), Name: strings.Repeat("n", 1000), Type: 1<<31 - 1}}, 520)},
		{Exports: slices.Repeat([]api.Export{{Name: strings.Repeat("\u20ac", 333), Kind: 3, Index: 1<<32 - 1}}, 1000)},
		{Funcs: slices.Repeat([]api.Func{{Type: 1<<31 - 1, Code: code}}, 170)},
		{Elems: slices.Repeat([]api.Elem{{Funcs: slices.Repeat([]uint32{math.MaxUint32}, 16384)}}, 12)},
		{Datas: slices.Repeat([]api.Data{{Bytes: bytes.Repeat([]byte{0, 11}, 500)}}, 1000)},
	} {
		checkBack(t, "great lists", m)
	}
}

// P9.3: bytes with more of them than are needed are decoded as the same module as fewer are, in each way that there is.
func TestShorter(t *testing.T) {
	for _, p := range []struct {
		what string
		long []byte
		want []byte
	}{
		{"sections 0", []byte{0, 1, 0, 5, 3, 1, 0, 7, 0, 4, 1, 'a', 2, 3}, []byte{5, 3, 1, 0, 7}},
		{"empty lists", []byte{1, 1, 0, 2, 2, 128, 0, 3, 1, 0, 4, 1, 0, 5, 1, 0, 6, 1, 0, 7, 1, 0, 9, 1, 0, 10, 1, 0, 11, 1, 0}, nil},
		{"a longer size", []byte{5, 131, 128, 128, 128, 0, 1, 0, 7}, []byte{5, 3, 1, 0, 7}},
		{"a longer count", []byte{5, 4, 129, 0, 0, 7}, []byte{5, 3, 1, 0, 7}},
		{"a longer Start", []byte{8, 3, 135, 128, 0}, []byte{8, 1, 7}},
		{"longer names", []byte{2, 8, 1, 129, 0, 'a', 128, 0, 0, 3}, []byte{2, 6, 1, 1, 'a', 0, 0, 3}},
		{"a longer number before Offset", []byte{11, 6, 1, 128, 0, 11, 1, 9}, []byte{11, 5, 1, 0, 11, 1, 9}},
		{"groups of local words", []byte{3, 2, 1, 0, 10, 12, 1, 10, 4, 1, 127, 0, 127, 2, 127, 0, 127, 11}, []byte{3, 2, 1, 0, 10, 6, 1, 4, 1, 3, 127, 11}},
		{"groups without words", []byte{3, 2, 1, 0, 10, 8, 1, 6, 2, 0, 127, 0, 127, 11}, []byte{3, 2, 1, 0, 10, 4, 1, 2, 0, 11}},
		{"an If with an empty E", []byte{6, 8, 1, 127, 0, 4, 64, 5, 11, 11}, []byte{6, 7, 1, 127, 0, 4, 64, 11, 11}},
	} {
		m, f := Module(headed(p.long))
		b, e := encode.Module(m)
		if f != (api.Fault{}) || e != api.OK || !bytes.Equal(b, headed(p.want)) {
			t.Errorf("%s: %v, %v: %v, want %v", p.what, f, e, b, headed(p.want))
		}
		check(t, headed(p.long))
	}
}

// Sections that are there and have empty lists say no more than none; a section 8 that is there says that a module is Started.
func TestEmptyLists(t *testing.T) {
	all := []byte{1, 2, 3, 4, 5, 6, 7, 9, 10, 11}
	for choice := range 1 << len(all) {
		var b []byte
		for k, id := range all {
			if choice>>k&1 == 1 {
				b = append(b, section(id, longer(0)[choice%5]...)...)
			}
		}
		checkIs(t, "empty lists", headed(b), api.Module{})
	}
	checkIs(t, "a Start of 0", headed([]byte{8, 1, 0}), api.Module{Started: true})
	checkIs(t, "empty lists within", headed([]byte{9, 4, 1, 0, 11, 0, 11, 4, 1, 0, 11, 0}), api.Module{Elems: make([]api.Elem, 1), Datas: make([]api.Data, 1)})
}
