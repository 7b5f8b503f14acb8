package place

import (
	"reflect"
	"slices"
	"testing"

	"gimlet/api"
)

// The places of types in the modules of these tests.
const (
	typeNone = iota // takes nothing, returns nothing
	typeGet
	typePut
	typeBoth // takes a word, returns a word
)

func types() []api.FuncType {
	return []api.FuncType{typeNone: {}, typeGet: {Results: 1}, typePut: {Params: 1}, typeBoth: {Params: 1, Results: 1}}
}

func getc() api.Import { return api.Import{Module: "host", Name: "getc", Type: typeGet} }

func putc() api.Import { return api.Import{Module: "host", Name: "putc", Type: typePut} }

// number is the list of instructions that leaves a word.
func number(v uint32) []api.Instr { return []api.Instr{{Op: api.OpConst, N: int32(v)}} }

func elem(at uint32, funcs ...uint32) api.Elem { return api.Elem{Offset: number(at), Funcs: funcs} }

func data(at uint32, b ...byte) api.Data { return api.Data{Offset: number(at), Bytes: b} }

// functions is a module with so many functions, which do nothing.
func functions(n int) api.Module {
	return api.Module{Types: types(), Funcs: slices.Repeat([]api.Func{{}}, n)}
}

// tabled is a module of nine functions with a table of so many entries.
func tabled(size uint32, elems ...api.Elem) api.Module {
	m := functions(9)
	m.Tables = []api.Limits{{Min: size}}
	m.Elems = elems
	return m
}

// paged is a module with a memory of so many pages.
func paged(pages uint32, datas ...api.Data) api.Module {
	return api.Module{Memories: []api.Limits{{Min: pages}}, Datas: datas}
}

// sample is a module that is valid, can be made ready, and has several items in each list that may have them.
func sample() api.Module {
	m := functions(4)
	m.Imports = []api.Import{putc(), getc(), putc()}
	m.Tables = []api.Limits{{Min: 6, Max: 9, Capped: true}}
	m.Memories = []api.Limits{{Min: 2, Max: 3, Capped: true}}
	m.Globals = []api.Global{{Mut: true, Init: number(7)}, {Init: number(8)}, {Mut: true, Init: number(1 << 31)}}
	m.Exports = []api.Export{{Name: "f", Index: 3}, {Name: "memory", Kind: api.KindMemory}, {Name: "g", Kind: api.KindGlobal, Index: 2}}
	m.Started, m.Start = true, 4
	m.Elems = []api.Elem{elem(1, 3, 4), elem(2, 0), elem(5, 6), elem(6)}
	m.Datas = []api.Data{data(10, 1, 2, 3), data(65535, 4, 5), data(131070, 6, 7), data(131072)}
	return m
}

// must returns a place of a module that can be made ready.
func must(t *testing.T, m api.Module) *Place {
	t.Helper()
	p, e := New(m)
	if p == nil || e != api.OK {
		t.Fatalf("New = %v, %v; want a place", p, e)
	}
	return p
}

// newAs holds the error of New, and that there is no place beside one, against what is wanted.
func newAs(t *testing.T, what string, m api.Module, want api.Errno) {
	t.Helper()
	if p, e := New(m); e != want || (p != nil) != (want == api.OK) {
		t.Errorf("%s: New = %v, %v; want %v", what, p, e, want)
	}
}

// entryAs holds an entry against the function that is wanted in it.
func entryAs(t *testing.T, p *Place, n, want uint32) {
	t.Helper()
	if f, is, e := p.Entry(n); f != want || !is || e != api.OK {
		t.Errorf("Entry(%d) = %d, %v, %v; want %d", n, f, is, e, want)
	}
}

// noEntry holds an entry in which there is no function against that, or against ErrBounds.
func noEntry(t *testing.T, p *Place, n uint32, want api.Errno) {
	t.Helper()
	if f, is, e := p.Entry(n); f != 0 || is || e != want {
		t.Errorf("Entry(%d) = %d, %v, %v; want none, %v", n, f, is, e, want)
	}
}

// globalAs holds the word of a global, or its error, against what is wanted.
func globalAs(t *testing.T, p *Place, n, want uint32, fault api.Errno) {
	t.Helper()
	if v, e := p.Global(n); v != want || e != fault {
		t.Errorf("Global(%d) = %d, %v; want %d, %v", n, v, e, want, fault)
	}
}

func setAs(t *testing.T, p *Place, n, v uint32, want api.Errno) {
	t.Helper()
	if e := p.SetGlobal(n, v); e != want {
		t.Errorf("SetGlobal(%d, %d) = %v; want %v", n, v, e, want)
	}
}

func hostAs(t *testing.T, p *Place, n uint32, want int) {
	t.Helper()
	if h, is := p.Host(n); h != want || is != (want != 0) {
		t.Errorf("Host(%d) = %d, %v; want %d", n, h, is, want)
	}
}

// readsAs holds the bytes of a place's memory from an address on against what is wanted.
func readsAs(t *testing.T, p *Place, at uint32, want ...byte) {
	t.Helper()
	if b, e := p.Memory().Read(at, uint32(len(want))); e != api.OK || !slices.Equal(b, want) {
		t.Errorf("from %d on %v, %v; want %v", at, b, e, want)
	}
}

// dice are numbers that look as if by chance, the same ones each time.
type dice uint64

func (d *dice) below(n int) int {
	*d = *d*6364136223846793005 + 1442695040888963407
	return int(uint64(*d) >> 33 % uint64(n))
}

func (d *dice) often(percent int) bool { return d.below(100) < percent }

// cloned is a copy of a module that owes nothing to the project.
func cloned(m api.Module) api.Module { return deepClone(reflect.ValueOf(m)).Interface().(api.Module) }

// deepClone copies a value and all lists in it.
func deepClone(v reflect.Value) reflect.Value {
	out := reflect.New(v.Type()).Elem()
	switch v.Kind() {
	case reflect.Slice:
		if !v.IsNil() {
			out.Set(reflect.MakeSlice(v.Type(), v.Len(), v.Len()))
			for k := range v.Len() {
				out.Index(k).Set(deepClone(v.Index(k)))
			}
		}
	case reflect.Struct:
		for k := range v.NumField() {
			out.Field(k).Set(deepClone(v.Field(k)))
		}
	default:
		out.Set(v)
	}
	return out
}
