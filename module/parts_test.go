package module

import (
	"reflect"
	"slices"
	"strconv"
	"testing"

	"gimlet/api"
)

func nops(n int) []api.Instr { return slices.Repeat([]api.Instr{{Op: api.OpNop}}, n) }

// nest puts a Nop into n instructions in one another, in L and in E by turns.
func nest(n int) []api.Instr {
	l := nops(1)
	for k := range n {
		if k%2 == 0 {
			l = []api.Instr{{Op: api.OpIf, L: l}}
		} else {
			l = []api.Instr{{Op: api.OpIf, E: l}}
		}
	}
	return l
}

// sampleList has each kind of field, at each of three depths, in L and in E.
func sampleList(n int32) []api.Instr {
	one := []api.Instr{{Op: api.OpConst, N: n}, {Op: api.OpLoad, A: 2, B: uint32(n)}, {Op: api.OpBrTable, Tags: []uint32{0, 1}, A: 1}}
	two := []api.Instr{{Op: api.OpBlock, Results: 1, L: one}, {Op: api.OpDrop}, {Op: api.OpLoop, L: nops(2)}}
	return []api.Instr{
		{Op: api.OpGet, A: uint32(n)},
		{Op: api.OpIf, Results: 1, L: two, E: []api.Instr{{Op: api.OpConst, N: -n}, {Op: api.OpIf, E: cloned(one)}}},
		{Op: api.OpBrTable, Tags: []uint32{7}, A: 3},
		{Op: api.OpReturn},
	}
}

// sample is a module that is well-formed and has several items in each list that may have them.
func sample() api.Module {
	return api.Module{
		Types:    []api.FuncType{{}, {Params: 2, Results: 1}, {Params: 255}},
		Imports:  []api.Import{{Module: "host", Name: "get", Type: 1}, {Module: "", Name: "\u00e9", Type: 9}},
		Funcs:    []api.Func{{Type: 1, Code: api.Code{Locals: 3, L: sampleList(5)}}, {}, {Type: 2, Code: api.Code{L: sampleList(6)}}},
		Tables:   []api.Limits{{Min: 2, Max: 1 << 20, Capped: true}},
		Memories: []api.Limits{{Min: 1, Max: 2, Capped: true}},
		Globals:  []api.Global{{Mut: true, Init: sampleList(7)}, {Init: []api.Instr{{Op: api.OpConst, N: 1}}}},
		Exports:  []api.Export{{Name: "f", Kind: 1, Index: 3}, {Name: "f", Index: 1}, {Name: "m", Kind: 2}, {Name: "g", Kind: 3, Index: 1 << 31}},
		Started:  true,
		Start:    4,
		Elems:    []api.Elem{{Offset: sampleList(8), Funcs: []uint32{0, 1, 1}}, {Funcs: []uint32{5}}},
		Datas:    []api.Data{{Offset: sampleList(9), Bytes: []byte("abc")}, {Offset: nops(1)}},
	}
}

// full is a module with at least one item in each of its lists, each of which is the greatest, or the longest, that may be.
func full() api.Module {
	m := sample()
	m.Types = slices.Repeat(m.Types, api.MaxItems)[:api.MaxItems]
	m.Imports = slices.Repeat(m.Imports, api.MaxItems/2)
	m.Funcs = slices.Repeat([]api.Func{{Type: 1<<31 - 1, Code: api.Code{Locals: 50000, L: nops(1)}}}, api.MaxItems)
	m.Globals = slices.Repeat(m.Globals[1:], api.MaxItems)
	m.Exports = slices.Repeat(m.Exports, api.MaxItems/4)
	m.Elems = slices.Repeat([]api.Elem{{Funcs: []uint32{1}}}, api.MaxItems)
	m.Elems[api.MaxItems-1].Funcs = make([]uint32, api.MaxItems)
	m.Datas = slices.Repeat([]api.Data{{Bytes: make([]byte, 64)}}, api.MaxItems)
	return m
}

// deepClone copies what it is given and all lists in it, by their types alone.
func deepClone(v reflect.Value) reflect.Value {
	out := reflect.New(v.Type()).Elem()
	switch v.Kind() {
	case reflect.Slice:
		if !v.IsNil() {
			out.Set(reflect.MakeSlice(v.Type(), v.Len(), v.Len()))
			for k := range v.Len() {
				out.Index(k).Set(deepClone(v.Index(k)))
			}
		}
	case reflect.Struct:
		for k := range v.NumField() {
			out.Field(k).Set(deepClone(v.Field(k)))
		}
	default:
		out.Set(v)
	}
	return out
}

// cloned is a copy that owes nothing to Copy.
func cloned[T any](x T) T { return deepClone(reflect.ValueOf(x)).Interface().(T) }

// visit calls f with each value within v, one that has others ahead of these, and the way to it.
func visit(v reflect.Value, path string, f func(string, reflect.Value)) {
	f(path, v)
	switch v.Kind() {
	case reflect.Slice:
		for k := range v.Len() {
			visit(v.Index(k), path+"["+strconv.Itoa(k)+"]", f)
		}
	case reflect.Struct:
		for k := range v.NumField() {
			visit(v.Field(k), path+"."+v.Type().Field(k).Name, f)
		}
	}
}

// visitModule visits what can be changed in a module.
func visitModule(m *api.Module, f func(string, reflect.Value)) {
	visit(reflect.ValueOf(m).Elem(), "", f)
}

// otherValues are values that v might have instead of its own: for a number also those that are alike in all bits but one.
func otherValues(v reflect.Value) []reflect.Value {
	var out []reflect.Value
	add := func(x any) { out = append(out, reflect.ValueOf(x).Convert(v.Type())) }
	switch v.Kind() {
	case reflect.Bool:
		add(!v.Bool())
	case reflect.String:
		s := v.String()
		add(s + "x")
		add("x" + s)
		if s != "" {
			add(s[1:])
			add(string(s[0]^1) + s[1:])
		}
	case reflect.Int, reflect.Int32:
		for bit := range v.Type().Bits() {
			add(v.Int() ^ int64(-1)<<63>>(63-bit)) // all bits from the lowest up to that one
			add(v.Int() ^ 1<<bit)
		}
	case reflect.Uint8, reflect.Uint32:
		for bit := range v.Type().Bits() {
			add(v.Uint() ^ 1<<bit)
		}
	case reflect.Slice:
		out = otherLists(v)
	}
	return out
}

// otherLists are lists with an item more, an item less, and two items the other way round.
func otherLists(v reflect.Value) []reflect.Value {
	zero := reflect.Zero(v.Type().Elem())
	out := []reflect.Value{reflect.Append(deepClone(v), zero)}
	n := v.Len()
	if n > 0 {
		out = append(out,
			reflect.Append(deepClone(v), deepClone(v.Index(n-1))),
			deepClone(v).Slice(0, n-1),
			deepClone(v).Slice(1, n),
			reflect.Zero(v.Type()))
	}
	for k := 1; k < n; k++ {
		if reflect.DeepEqual(v.Index(k-1).Interface(), v.Index(k).Interface()) {
			continue
		}
		turned := deepClone(v)
		turned.Index(k - 1).Set(deepClone(v.Index(k)))
		turned.Index(k).Set(deepClone(v.Index(k - 1)))
		out = append(out, turned)
	}
	return out
}

// span is the memory of a list, with what it has to spare.
type span struct {
	path       string
	start, end uintptr
}

func spans(m *api.Module) []span {
	var out []span
	visitModule(m, func(path string, v reflect.Value) {
		if v.Kind() == reflect.Slice && v.Cap() > 0 {
			out = append(out, span{path, v.Pointer(), v.Pointer() + uintptr(v.Cap())*v.Type().Elem().Size()})
		}
	})
	return out
}

// checkApart holds that no list of a module shares memory with one of the others, nor with another one of its own.
func checkApart(t *testing.T, m *api.Module, others ...*api.Module) {
	t.Helper()
	own := spans(m)
	for k, a := range own {
		against := slices.Clone(own[:k])
		for _, other := range others {
			against = append(against, spans(other)...)
		}
		for _, b := range against {
			if a.start < b.end && b.start < a.end {
				t.Fatalf("%s and %s share memory", a.path, b.path)
			}
		}
	}
}
