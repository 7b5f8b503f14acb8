package exec

import (
	"reflect"
	"slices"
	"testing"

	"gimlet/api"
	"gimlet/place"
)

const pageBytes = 65536

// The places of types in the modules of these tests.
const (
	typeNone = iota // takes nothing, returns nothing
	typeGet
	typePut
	typeBoth // takes a word, returns a word
	typeTwo  // takes two words, returns one
)

func types() []api.FuncType {
	return []api.FuncType{typeNone: {}, typeGet: {Results: 1}, typePut: {Params: 1}, typeBoth: {Params: 1, Results: 1}, typeTwo: {Params: 2, Results: 1}}
}

// The functions of the host come first in the modules of these tests, then f, which is exported.
const (
	theGetc = iota
	thePutc
	theF
)

func op(o int) api.Instr { return api.Instr{Op: o} }

func with(o int, a uint32) api.Instr { return api.Instr{Op: o, A: a} }

func word(v uint32) api.Instr { return api.Instr{Op: api.OpConst, N: int32(v)} }

func code(l ...api.Instr) []api.Instr { return l }

func join(ls ...[]api.Instr) []api.Instr { return slices.Concat(ls...) }

func block(results int, l ...api.Instr) api.Instr {
	return api.Instr{Op: api.OpBlock, Results: results, L: l}
}

func loop(results int, l ...api.Instr) api.Instr {
	return api.Instr{Op: api.OpLoop, Results: results, L: l}
}

func either(results int, l, e []api.Instr) api.Instr {
	return api.Instr{Op: api.OpIf, Results: results, L: l, E: e}
}

func brTable(last uint32, tags ...uint32) api.Instr {
	return api.Instr{Op: api.OpBrTable, Tags: tags, A: last}
}

// at is a load or store with an offset.
func at(o int, offset uint32) api.Instr { return api.Instr{Op: o, B: offset} }

func get(n uint32) api.Instr { return with(api.OpGet, n) }

func set(n uint32) api.Instr { return with(api.OpSet, n) }

func br(n uint32) api.Instr { return with(api.OpBr, n) }

func brIf(n uint32) api.Instr { return with(api.OpBrIf, n) }

func calling(n uint32) api.Instr { return with(api.OpCall, n) }

// shown writes a word's lowest byte, as a digit.
func shown(digit uint32) []api.Instr { return code(word('0'+digit), calling(thePutc)) }

// add returns the module with a function more, of a type and so many words of its own.
func add(m api.Module, kind, locals int, l ...api.Instr) api.Module {
	m.Funcs = append(slices.Clone(m.Funcs), api.Func{Type: kind, Code: api.Code{Locals: locals, L: l}})
	return m
}

// module is one with the host's functions, a memory of one page, which may become three, three globals, a table of six entries, and the function f.
func module(kind, locals int, l ...api.Instr) api.Module {
	m := api.Module{
		Types:    types(),
		Imports:  []api.Import{{Module: "host", Name: "getc", Type: typeGet}, {Module: "host", Name: "putc", Type: typePut}},
		Tables:   []api.Limits{{Min: 6}},
		Memories: []api.Limits{{Min: 1, Max: 3, Capped: true}},
		Globals:  []api.Global{{Mut: true, Init: code(word(7))}, {Init: code(word(8))}, {Mut: true, Init: code(word(1 << 31))}},
		Exports:  []api.Export{{Name: "f", Index: theF}, {Name: "getc"}, {Name: "putc", Index: thePutc}},
		Elems:    []api.Elem{{Offset: code(word(1)), Funcs: []uint32{theF, theGetc, thePutc}}},
	}
	return add(m, kind, locals, l...)
}

// leaving is the module whose f takes nothing, has three local words, and returns what a list leaves.
func leaving(l ...api.Instr) api.Module { return module(typeGet, 3, l...) }

// doing is the same, whose f returns nothing.
func doing(l ...api.Instr) api.Module { return module(typeNone, 3, l...) }

func placed(t *testing.T, m api.Module) *place.Place {
	t.Helper()
	p, e := place.New(m)
	if e != api.OK {
		t.Fatalf("place.New = %v", e)
	}
	return p
}

// on returns a machine of a place.
func on(t *testing.T, p *place.Place, input string) *Machine {
	t.Helper()
	x, e := New(p, []byte(input))
	if x == nil || e != api.OK {
		t.Fatalf("New = %v, %v; want a machine", x, e)
	}
	return x
}

func must(t *testing.T, m api.Module, input string) *Machine {
	t.Helper()
	return on(t, placed(t, m), input)
}

func callAs(t *testing.T, x *Machine, name string, args []uint32, want api.Errno) {
	t.Helper()
	if e := x.Call(name, args); e != want {
		t.Errorf("Call(%q, %v) = %v; want %v", name, args, e, want)
	}
}

func startAs(t *testing.T, x *Machine, want api.Errno) {
	t.Helper()
	if e := x.Start(); e != want {
		t.Errorf("Start() = %v; want %v", e, want)
	}
}

func stepAs(t *testing.T, x *Machine, n, want int) {
	t.Helper()
	if done, e := x.Step(n); done != want || e != api.OK {
		t.Errorf("Step(%d) = %d, %v; want %d", n, done, e, want)
	}
}

// same returns whether two outcomes are equal: nil and empty lists are.
func same(a, b api.Outcome) bool {
	return a.How == b.How && a.Trap == b.Trap && a.Read == b.Read && a.Steps == b.Steps && slices.Equal(a.Results, b.Results) && slices.Equal(a.Out, b.Out)
}

func outcomeAs(t *testing.T, what string, x *Machine, want api.Outcome) {
	t.Helper()
	if o := x.Outcome(); !same(o, want) {
		t.Errorf("%s: %+v; want %+v", what, o, want)
	}
}

// plenty is more steps than any run needs that ends in these tests, but for a few.
const plenty = 1 << 20

// ran returns a machine of a module on which f was called, and how that is after plenty of steps.
func ran(t *testing.T, m api.Module, input string, args ...uint32) (*Machine, api.Outcome) {
	t.Helper()
	x := must(t, m, input)
	callAs(t, x, "f", args, api.OK)
	done, e := x.Step(plenty)
	o := x.Outcome()
	if e != api.OK || done != o.Steps {
		t.Errorf("Step = %d, %v; of %d steps", done, e, o.Steps)
	}
	return x, o
}

// returns holds that f comes to its end in so many steps, and the word that it returns.
func returns(t *testing.T, what string, m api.Module, steps int, want uint32, args ...uint32) *Machine {
	t.Helper()
	x, o := ran(t, m, "", args...)
	if wanted := (api.Outcome{How: api.Done, Results: []uint32{want}, Steps: steps}); !same(o, wanted) {
		t.Errorf("%s: %+v; want %+v", what, o, wanted)
	}
	return x
}

// falls holds that f comes to a trap in so many steps.
func falls(t *testing.T, what string, m api.Module, steps int, trap api.Errno, args ...uint32) *Machine {
	t.Helper()
	x, o := ran(t, m, "", args...)
	if wanted := (api.Outcome{How: api.Fallen, Trap: trap, Steps: steps}); !same(o, wanted) {
		t.Errorf("%s: %+v; want %+v", what, o, wanted)
	}
	return x
}

// writes holds that f, which returns nothing, comes to its end in so many steps, and what it has written.
func writes(t *testing.T, what string, m api.Module, steps int, want string, args ...uint32) {
	t.Helper()
	_, o := ran(t, m, "", args...)
	if wanted := (api.Outcome{How: api.Done, Out: []byte(want), Steps: steps}); !same(o, wanted) {
		t.Errorf("%s: %+v, %q; want %+v, %q", what, o, o.Out, wanted, want)
	}
}

// dice are numbers that look as if by chance, the same ones each time.
type dice uint64

func (d *dice) below(n int) int {
	*d = *d*6364136223846793005 + 1442695040888963407
	return int(uint64(*d) >> 33 % uint64(n))
}

func (d *dice) often(percent int) bool { return d.below(100) < percent }

// cloned is a copy of a value that owes nothing to the project.
func cloned[T any](x T) T { return deepClone(reflect.ValueOf(x)).Interface().(T) }

// deepClone copies a value and all lists in it.
func deepClone(v reflect.Value) reflect.Value {
	out := reflect.New(v.Type()).Elem()
	switch v.Kind() {
	case reflect.Slice:
		if !v.IsNil() {
			out.Set(reflect.MakeSlice(v.Type(), v.Len(), v.Len()))
			for k := range v.Len() {
				out.Index(k).Set(deepClone(v.Index(k)))
			}
		}
	case reflect.Struct:
		for k := range v.NumField() {
			out.Field(k).Set(deepClone(v.Field(k)))
		}
	default:
		out.Set(v)
	}
	return out
}
