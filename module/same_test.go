package module

import (
	"reflect"
	"testing"

	"gimlet/api"
)

func checkSame(t *testing.T, what string, a, b api.Module, want bool) {
	t.Helper()
	if Same(a, b) != want || Same(b, a) != want {
		t.Fatalf("%s: Same = %v, %v; want %v", what, Same(a, b), Same(b, a), want)
	}
}

// bare is a module of one item in each list, all of whose fields are zero.
func bare() api.Module {
	return api.Module{
		Types: make([]api.FuncType, 1), Imports: make([]api.Import, 1), Funcs: make([]api.Func, 1),
		Tables: make([]api.Limits, 1), Memories: make([]api.Limits, 1), Globals: make([]api.Global, 1),
		Exports: make([]api.Export, 1), Elems: make([]api.Elem, 1), Datas: make([]api.Data, 1),
	}
}

// deeper is a module with one list of instructions in each item, in which one instruction stands at each of n depths.
func deeper(n int) api.Module {
	m := bare()
	m.Funcs[0].Code.L, m.Globals[0].Init = nest(n), nest(n)
	m.Elems[0].Offset, m.Datas[0].Offset = nest(n), nest(n)
	return m
}

// P7.2: modules that differ in one field alone, each field of each item, at each depth, and lists that differ in an item.
func TestSameFields(t *testing.T) {
	seen := map[string]int{}
	for _, m := range []api.Module{{}, bare(), sample(), deeper(5)} {
		again := cloned(m)
		checkSame(t, "a module and itself", m, m, true)
		checkSame(t, "a module and its like", m, again, true)
		visitModule(&again, func(path string, v reflect.Value) {
			before := reflect.ValueOf(v.Interface())
			for _, other := range otherValues(v) {
				seen[v.Kind().String()]++
				v.Set(other)
				checkSame(t, path, m, again, false)
			}
			checkSame(t, path, again, cloned(again), true)
			v.Set(before)
		})
		checkSame(t, "a module as it was", m, again, true)
	}
	for _, kind := range []string{"bool", "string", "int", "int32", "uint8", "uint32", "slice"} {
		if seen[kind] == 0 {
			t.Errorf("no %s was changed", kind)
		}
	}
}

// The fields by their names, so that none is passed over.
func TestSameEach(t *testing.T) {
	list := func(i api.Instr) api.Module {
		return api.Module{Funcs: []api.Func{{Code: api.Code{L: []api.Instr{{L: []api.Instr{i}}}}}}}
	}
	all := []api.Module{
		{}, bare(), list(api.Instr{}),
		{Types: []api.FuncType{{}}}, {Types: []api.FuncType{{Params: 1}}}, {Types: []api.FuncType{{Results: 1}}},
		{Imports: []api.Import{{}}}, {Imports: []api.Import{{Module: "a"}}}, {Imports: []api.Import{{Name: "a"}}}, {Imports: []api.Import{{Type: 1}}},
		{Funcs: []api.Func{{}}}, {Funcs: []api.Func{{Type: 1}}}, {Funcs: []api.Func{{Code: api.Code{Locals: 1}}}}, {Funcs: []api.Func{{Code: api.Code{L: nops(1)}}}},
		{Tables: []api.Limits{{}}}, {Tables: []api.Limits{{Min: 1}}}, {Tables: []api.Limits{{Max: 1}}}, {Tables: []api.Limits{{Capped: true}}},
		{Memories: []api.Limits{{}}}, {Memories: []api.Limits{{Min: 1}}}, {Memories: []api.Limits{{Max: 1}}}, {Memories: []api.Limits{{Capped: true}}},
		{Globals: []api.Global{{}}}, {Globals: []api.Global{{Mut: true}}}, {Globals: []api.Global{{Init: nops(1)}}},
		{Exports: []api.Export{{}}}, {Exports: []api.Export{{Name: "a"}}}, {Exports: []api.Export{{Kind: 1}}}, {Exports: []api.Export{{Index: 1}}},
		{Started: true}, {Start: 1}, {Started: true, Start: 1},
		{Elems: []api.Elem{{}}}, {Elems: []api.Elem{{Offset: nops(1)}}}, {Elems: []api.Elem{{Funcs: []uint32{0}}}}, {Elems: []api.Elem{{Funcs: []uint32{1}}}},
		{Datas: []api.Data{{}}}, {Datas: []api.Data{{Offset: nops(1)}}}, {Datas: []api.Data{{Bytes: []byte{0}}}}, {Datas: []api.Data{{Bytes: []byte{1}}}},
		list(api.Instr{Op: 1}), list(api.Instr{Results: 1}), list(api.Instr{A: 1}), list(api.Instr{B: 1}), list(api.Instr{N: 1}), list(api.Instr{N: -1}),
		list(api.Instr{Tags: []uint32{0}}), list(api.Instr{Tags: []uint32{1}}), list(api.Instr{L: nops(1)}), list(api.Instr{E: nops(1)}), list(api.Instr{E: nops(1), L: nops(1)}),
	}
	for i, a := range all {
		for j, b := range all {
			if Same(a, b) != (i == j) {
				t.Errorf("Same(%d, %d) = %v", i, j, i != j)
			}
		}
	}
}

// P7.2: a nil list and an empty one are equal, wherever they are.
func TestSameEmpty(t *testing.T) {
	for _, m := range []api.Module{{}, bare(), sample()} {
		again, emptied := cloned(m), 0
		visitModule(&again, func(path string, v reflect.Value) {
			if v.Kind() == reflect.Slice && v.Len() == 0 {
				v.Set(reflect.MakeSlice(v.Type(), 0, emptied%3))
				emptied++
				checkSame(t, path, m, again, true)
			}
		})
		if emptied < 6 {
			t.Errorf("%d lists were empty", emptied)
		}
		checkSame(t, "all of them", again, cloned(again), true)
		checkSame(t, "a copy", again, Copy(m), true)
	}
}

// What a list has to spare is no part of it.
func TestSameSpare(t *testing.T) {
	a, b := sample(), sample()
	a.Types = append(a.Types, api.FuncType{Params: 9})[:len(a.Types)]
	b.Datas[0].Bytes = append(b.Datas[0].Bytes, 1, 2, 3)[:3]
	b.Funcs[0].Code.L = append(b.Funcs[0].Code.L, api.Instr{Op: 3})[:len(b.Funcs[0].Code.L)]
	checkSame(t, "what is to spare", a, b, true)
}

// As deep, and as long, as the document's bound lets one test have them.
func TestSameGreat(t *testing.T) {
	for _, n := range []int{1, 2, 898, 899, 900, 901, 65534} {
		a, b := deeper(n), deeper(n)
		checkSame(t, "nested", a, b, true)
		checkSame(t, "nested otherwise", a, deeper(n+1), false)
		innermost := &b.Datas[0].Offset[0]
		for len(innermost.L)+len(innermost.E) > 0 {
			if len(innermost.L) > 0 {
				innermost = &innermost.L[0]
			} else {
				innermost = &innermost.E[0]
			}
		}
		innermost.N = 1
		checkSame(t, "the innermost one", a, b, false)
	}
	a, b := full(), full()
	checkSame(t, "full", a, b, true)
	b.Elems[api.MaxItems-1].Funcs = make([]uint32, api.MaxItems)
	checkSame(t, "full", a, b, true)
	b.Elems[api.MaxItems-1].Funcs[api.MaxItems-1] = 1
	checkSame(t, "the last of the last", a, b, false)
}
