package decode

import (
	"bytes"
	"reflect"
	"slices"
	"strconv"
	"testing"

	"gimlet/api"
	"gimlet/module"
)

// visit calls f with each value within v, and the way to it.
func visit(v reflect.Value, path string, f func(string, reflect.Value)) {
	f(path, v)
	switch v.Kind() {
	case reflect.Slice:
		for k := range v.Len() {
			visit(v.Index(k), path+"["+strconv.Itoa(k)+"]", f)
		}
	case reflect.Struct:
		for k := range v.NumField() {
			visit(v.Field(k), path+"."+v.Type().Field(k).Name, f)
		}
	}
}

// span is the memory of a list, with what it has to spare.
type span struct {
	path       string
	start, end uintptr
}

func spans(x any) []span {
	var out []span
	visit(reflect.ValueOf(x), "", func(path string, v reflect.Value) {
		if v.Kind() == reflect.Slice && v.Cap() > 0 {
			out = append(out, span{path, v.Pointer(), v.Pointer() + uintptr(v.Cap())*v.Type().Elem().Size()})
		}
	})
	return out
}

// checkApart holds that no two lists within some values share memory.
func checkApart(t *testing.T, values ...any) {
	t.Helper()
	var all []span
	for _, x := range values {
		all = append(all, spans(x)...)
	}
	slices.SortFunc(all, func(a, b span) int { return int(a.start) - int(b.start) })
	for k := 1; k < len(all); k++ {
		if all[k].start < all[k-1].end {
			t.Fatalf("%s and %s share memory", all[k-1].path, all[k].path)
		}
	}
}

// scribble overwrites what a list has, and what it has to spare.
func scribble[T any](l []T, with T) {
	l = l[:cap(l)]
	for k := range l {
		l[k] = with
	}
}

// Rule 4: what is handed in stays as it was, and what it has to spare is neither read nor changed.
func TestLeftAlone(t *testing.T) {
	for _, b := range someModules() {
		behind := slices.Concat(b[min(10, len(b)):], []byte{11, 1, 0, 0, 1, 0})
		for end := 0; end <= len(b); end++ {
			whole := slices.Concat(b[:end], b[end:], behind)
			before := slices.Clone(whole)
			short, f := Module(whole[:end])
			want, wantFault := Module(slices.Clip(slices.Clone(b[:end])))
			if f != wantFault || !module.Same(short, want) {
				t.Fatalf("%v: with others behind it %v, %v; want %v, %v", b[:end], short, f, want, wantFault)
			}
			l, f := Sections(whole[:end])
			wantChunks, wantFault := Sections(slices.Clip(slices.Clone(b[:end])))
			if f != wantFault || !slices.Equal(l, wantChunks) {
				t.Fatalf("%v: with others behind it %v, %v; want %v, %v", b[:end], l, f, wantChunks, wantFault)
			}
			if !bytes.Equal(whole, before) {
				t.Fatalf("%v was changed", b[:end])
			}
		}
	}
}

// Rule 4: a module shares no memory with its bytes, nor with another answer, and no two of its lists share any.
func TestNewMemory(t *testing.T) {
	modules := someModules()
	for _, m := range []api.Module{
		{Types: make([]api.FuncType, 100), Imports: make([]api.Import, 100), Funcs: make([]api.Func, 100), Globals: make([]api.Global, 100), Exports: make([]api.Export, 100)},
		{Elems: slices.Repeat([]api.Elem{{Offset: sampleList(1, 1), Funcs: []uint32{1, 2, 3}}}, 20), Datas: slices.Repeat([]api.Data{{Offset: nops(2), Bytes: []byte{1, 2, 3}}, {}}, 20)},
		{Datas: []api.Data{{Bytes: []byte("abc")}, {Bytes: []byte("def")}, {Bytes: []byte{}}}},
	} {
		modules = append(modules, encoded(m))
	}
	for _, b := range modules {
		handed := slices.Clone(b)
		first, _ := Module(handed)
		again, _ := Module(handed)
		chunks, _ := Sections(handed)
		more, _ := Sections(handed)
		checkApart(t, first, again, chunks, more, handed)
		like, wantChunks := module.Copy(first), slices.Clone(chunks)
		scribble(handed, 99)
		if !module.Same(first, like) || !module.Same(again, like) || !slices.Equal(chunks, wantChunks) {
			t.Fatalf("%s: another module once its bytes were changed", show(b))
		}
		scribbleModule(again)
		scribble(more, api.Chunk{ID: 99})
		if !module.Same(first, like) || !slices.Equal(chunks, wantChunks) || !bytes.Equal(handed, slices.Repeat([]byte{99}, len(handed))) {
			t.Fatalf("%s: a module was changed with another one", show(b))
		}
		if third, _ := Module(b); !module.Same(third, like) {
			t.Fatalf("%s: a later answer was changed", show(b))
		}
	}
}

func scribbleModule(m api.Module) {
	for _, d := range m.Datas {
		scribble(d.Bytes, 88)
		scribble(d.Offset, api.Instr{Op: 88})
	}
	for _, e := range m.Elems {
		scribble(e.Funcs, 88)
		scribble(e.Offset, api.Instr{Op: 88})
	}
	for _, g := range m.Globals {
		scribble(g.Init, api.Instr{Op: 88})
	}
	for _, f := range m.Funcs {
		scribble(f.Code.L, api.Instr{Op: 88})
	}
	scribble(m.Types, api.FuncType{Params: 88})
	scribble(m.Imports, api.Import{Name: "88"})
	scribble(m.Funcs, api.Func{Type: 88})
	scribble(m.Tables, api.Limits{Min: 88})
	scribble(m.Memories, api.Limits{Min: 88})
	scribble(m.Globals, api.Global{Mut: true})
	scribble(m.Exports, api.Export{Kind: 88})
	scribble(m.Elems, api.Elem{})
	scribble(m.Datas, api.Data{})
}

// Data alone: bytes that could be handed through as they are.
func TestBytesApart(t *testing.T) {
	b := headed(section(11, 2, 0, 11, 3, 1, 2, 3, 0, 11, 2, 4, 5))
	m, _ := Module(b)
	first, second := m.Datas[0].Bytes, m.Datas[1].Bytes
	_ = append(first, 7, 7, 7, 7, 7)
	first[0] = 9
	if !bytes.Equal(second, []byte{4, 5}) || !bytes.Equal(b, headed(section(11, 2, 0, 11, 3, 1, 2, 3, 0, 11, 2, 4, 5))) {
		t.Errorf("%v, %v", second, b)
	}
	clear(b)
	if !bytes.Equal(first, []byte{9, 2, 3}) || !bytes.Equal(second, []byte{4, 5}) {
		t.Errorf("%v, %v", first, second)
	}
}

// With a fault there is nothing else: each list is nil or empty.
func TestNothingElse(t *testing.T) {
	for _, b := range someModules() {
		for end := range b {
			other := append(slices.Clone(b[:end]), 255, 255, 255, 255, 255, 255)
			if m, f := Module(other); f.Err != api.OK && !reflect.DeepEqual(m, api.Module{}) {
				t.Fatalf("%v: %v and %v", other, f, m)
			}
			if l, f := Sections(other); f.Err != api.OK && l != nil {
				t.Fatalf("%v: %v and %v", other, f, l)
			}
		}
	}
}

// What is thrown and is no fault is a mistake of the program, and isn't hidden as a module with nothing.
func TestOtherPanics(t *testing.T) {
	defer func() {
		if thrown := recover(); thrown != "a mistake" {
			t.Errorf("%v", thrown)
		}
	}()
	x, f := answer(nil, func(*cursor) int { panic("a mistake") })
	t.Errorf("%v, %v", x, f)
}
