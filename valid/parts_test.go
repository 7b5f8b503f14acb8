package valid

import (
	"reflect"
	"slices"
	"testing"

	"gimlet/api"
	"gimlet/instr"
)

func op(o int) api.Instr { return api.Instr{Op: o} }

func with(o int, a uint32) api.Instr { return api.Instr{Op: o, A: a} }

func word(n int32) api.Instr { return api.Instr{Op: api.OpConst, N: n} }

func list(l ...api.Instr) []api.Instr { return l }

func block(results int, l ...api.Instr) api.Instr {
	return api.Instr{Op: api.OpBlock, Results: results, L: l}
}

func loop(results int, l ...api.Instr) api.Instr {
	return api.Instr{Op: api.OpLoop, Results: results, L: l}
}

func either(results int, l, e []api.Instr) api.Instr {
	return api.Instr{Op: api.OpIf, Results: results, L: l, E: e}
}

func brTable(a uint32, tags ...uint32) api.Instr {
	return api.Instr{Op: api.OpBrTable, A: a, Tags: tags}
}

// words are n instructions that leave a word each.
func words(n int) []api.Instr { return slices.Repeat(list(word(1)), n) }

// drops are n instructions that take a word each.
func drops(n int) []api.Instr { return slices.Repeat(list(op(api.OpDrop)), n) }

func nops(n int) []api.Instr { return slices.Repeat(list(op(api.OpNop)), n) }

// rich is a module that has something of each kind to refer to. Its functions are two of the host's, 0 and 1, and two of its own, 2 and 3; the one numbered 2 is that which the tests fill.
func rich() api.Module {
	return api.Module{
		Types:    []api.FuncType{{}, {Params: 2, Results: 1}, {Params: 1}, {Params: 3, Results: 1}, {Results: 1}, {Params: 2}},
		Imports:  []api.Import{{Module: "host", Name: "putc", Type: 2}, {Module: "host", Name: "getc", Type: 4}},
		Funcs:    []api.Func{{Type: 5, Code: api.Code{Locals: 3}}, {Type: 3, Code: api.Code{L: words(1)}}},
		Tables:   []api.Limits{{Min: 1}},
		Memories: []api.Limits{{Min: 1}},
		Globals:  []api.Global{{Init: words(1)}, {Mut: true, Init: words(1)}},
	}
}

// fn is that module with a list for its function 2, which takes two words, has three of its own, and returns as many as results says.
func fn(results int, l ...api.Instr) api.Module {
	m := rich()
	m.Funcs[0].Code.L = l
	if results == 1 {
		m.Funcs[0].Type = 1
	}
	return m
}

// holds holds the error of a module's first function, and the number of its instruction, against what is wanted.
func holds(t *testing.T, what string, m api.Module, want api.Errno, at int) {
	t.Helper()
	if e, n := Body(m, 0); e != want || n != at {
		t.Errorf("%s: %.200s: Body = %v, %d; want %v, %d", what, instr.Text(m.Funcs[0].Code.L), e, n, want, at)
	}
	wrong := api.Wrong{Err: want, Section: 10, At: at}
	if want == api.OK {
		wrong = api.Wrong{}
	}
	if w := Check(m); w != wrong {
		t.Errorf("%s: %.200s: Check = %+v, want %+v", what, instr.Text(m.Funcs[0].Code.L), w, wrong)
	}
}

// try is a function's list, how many words it returns, and what is wanted of it.
type try struct {
	results int
	l       []api.Instr
	want    api.Errno
	at      int
}

func tryAll(t *testing.T, what string, all []try) {
	t.Helper()
	for _, c := range all {
		holds(t, what, fn(c.results, c.l...), c.want, c.at)
	}
}

// cloned copies what it is given and all lists in it.
func cloned[T any](x T) T { return deepClone(reflect.ValueOf(x)).Interface().(T) }

func deepClone(v reflect.Value) reflect.Value {
	out := reflect.New(v.Type()).Elem()
	switch v.Kind() {
	case reflect.Slice:
		if !v.IsNil() {
			out.Set(reflect.MakeSlice(v.Type(), v.Len(), v.Len()))
			for k := range v.Len() {
				out.Index(k).Set(deepClone(v.Index(k)))
			}
		}
	case reflect.Struct:
		for k := range v.NumField() {
			out.Field(k).Set(deepClone(v.Field(k)))
		}
	default:
		out.Set(v)
	}
	return out
}
