package encode

import (
	"bytes"
	"reflect"
	"slices"
	"testing"

	"gimlet/api"
	"gimlet/module"
)

// spared returns a list that has no room to spare of its own, but others behind it.
func spared[T any](l []T, behind ...T) []T { return slices.Concat(l, behind)[:len(l)] }

// crowded is a module whose lists have others behind them in their memory, and share some.
func crowded() api.Module {
	m := sample()
	l := spared(sampleList(1, 3), api.Instr{Op: 5})
	l[2].Tags = spared(l[2].Tags, 77)
	l[6].L = spared(l[6].L, api.Instr{Op: 5})
	l[7].E = l[6].L
	m.Types = spared(m.Types, api.FuncType{Params: -1})
	m.Imports = spared(m.Imports, api.Import{Type: -1})
	m.Funcs = spared(m.Funcs, api.Func{Type: -1})
	m.Tables = spared(m.Tables, api.Limits{Max: 1})
	m.Memories = spared(m.Memories, api.Limits{Max: 1})
	m.Globals = spared(m.Globals, api.Global{Init: []api.Instr{{Op: 5}}})
	m.Exports = spared(m.Exports, api.Export{Kind: 4})
	m.Elems = spared(m.Elems, api.Elem{Offset: []api.Instr{{Op: 5}}})
	m.Datas = spared(m.Datas, api.Data{Offset: []api.Instr{{Op: 5}}})
	m.Funcs[0].Code.L, m.Globals[0].Init, m.Elems[0].Offset, m.Datas[0].Offset = l, l, l[:2], l[3:]
	m.Elems[0].Funcs = spared(m.Elems[0].Funcs, 88)
	m.Datas[0].Bytes = spared(m.Datas[0].Bytes, 99)
	return m
}

// whole returns a list with what it has to spare.
func whole[T any](l []T) []T { return l[:cap(l)] }

// uncut returns a module whose lists are as long as their memory, so that all of it can be compared.
func uncut(m api.Module) api.Module {
	return api.Module{
		Types: whole(m.Types), Imports: whole(m.Imports), Funcs: whole(m.Funcs), Tables: whole(m.Tables), Memories: whole(m.Memories),
		Globals: whole(m.Globals), Exports: whole(m.Exports), Started: m.Started, Start: m.Start, Elems: whole(m.Elems), Datas: whole(m.Datas),
	}
}

// inner are the lists within the items of crowded that have something behind them.
func inner(m api.Module) []any {
	l := m.Funcs[0].Code.L
	return []any{whole(l), whole(l[2].Tags), whole(l[6].L), whole(m.Elems[0].Funcs), whole(m.Datas[0].Bytes)}
}

// calls returns what Module and each Section return, one behind the other.
func calls(m api.Module) [][]byte {
	b, _ := Module(m)
	out := [][]byte{b}
	for id := 0; id <= 12; id++ {
		b, _ := Section(m, id)
		out = append(out, b)
	}
	return out
}

// Rule 4: what is handed in stays as it was, and what it has to spare is neither read nor changed.
func TestLeftAlone(t *testing.T) {
	m, like := crowded(), crowded()
	if module.Check(m) != api.OK {
		t.Fatal("not well-formed")
	}
	checkEncoded(t, "lists with others behind them", m)
	for k, b := range calls(m) {
		for i := range whole(b) {
			whole(b)[i] = 111
		}
		if !reflect.DeepEqual(m, like) || !reflect.DeepEqual(uncut(m), uncut(like)) || !reflect.DeepEqual(inner(m), inner(like)) {
			t.Fatalf("call %d: the module was changed", k)
		}
	}
	for _, r := range refused() {
		before := module.Copy(r.m)
		calls(r.m)
		if !reflect.DeepEqual(r.m, before) {
			t.Errorf("%s: the module was changed", r.what)
		}
	}
}

// Rule 4: bytes share no memory with the module, nor with those of another call.
func TestNewMemory(t *testing.T) {
	for _, m := range append(wellFormed(), crowded()) {
		m = module.Copy(m)
		first, again := calls(m), calls(m)
		want := make([][]byte, len(first))
		for k, b := range first {
			want[k] = slices.Clone(b)
		}
		for k := range m.Datas {
			clear(m.Datas[k].Bytes)
		}
		for k := range m.Elems {
			clear(m.Elems[k].Funcs)
		}
		clear(m.Types)
		clear(m.Funcs)
		for k, b := range again {
			for i := range whole(b) {
				whole(b)[i] = 222
			}
			if !bytes.Equal(first[k], want[k]) {
				t.Errorf("call %d shares memory", k)
			}
		}
		for k, b := range first {
			if !bytes.Equal(b, want[k]) {
				t.Errorf("call %d: %v was %v", k, show(b), show(want[k]))
			}
		}
	}
}

// Data alone: bytes that could be handed through as they are.
func TestBytesApart(t *testing.T) {
	data := []byte{1, 2, 3}
	m := api.Module{Datas: []api.Data{{Bytes: data}}}
	b, _ := Section(m, 11)
	all, _ := Module(m)
	data[1] = 9
	if !bytes.Equal(b, []byte{1, 0, 11, 3, 1, 2, 3}) || !bytes.Equal(all, headed(11, 7, 1, 0, 11, 3, 1, 2, 3)) {
		t.Errorf("%v, %v", b, all)
	}
	b[5], all[15] = 8, 8
	if !bytes.Equal(data, []byte{1, 9, 3}) {
		t.Errorf("%v", data)
	}
}
