package encode

import (
	"reflect"
	"regexp"
	"strings"
	"testing"

	"gimlet/api"
	"gimlet/module"
)

// visit calls f with each value within v, and the way to it without the numbers of items.
func visit(v reflect.Value, path string, f func(string, reflect.Value)) {
	f(path, v)
	switch v.Kind() {
	case reflect.Slice:
		for k := range v.Len() {
			visit(v.Index(k), path+"[]", f)
		}
	case reflect.Struct:
		for k := range v.NumField() {
			visit(v.Field(k), path+"."+v.Type().Field(k).Name, f)
		}
	}
}

// others are values that v might have instead of its own.
func others(v reflect.Value) []reflect.Value {
	var out []reflect.Value
	add := func(x any) { out = append(out, reflect.ValueOf(x).Convert(v.Type())) }
	switch v.Kind() {
	case reflect.Bool:
		add(!v.Bool())
	case reflect.String:
		for _, s := range []string{v.String() + "x", "x" + v.String(), v.String() + "\x00", strings.TrimRight(v.String(), "t"), strings.ToUpper(v.String()), ""} {
			add(s)
		}
	case reflect.Int, reflect.Int32:
		for bit := range v.Type().Bits() {
			add(v.Int() ^ 1<<bit)
		}
		add(v.Int() + 1)
		add(v.Int() - 1)
		add(^v.Int())
	case reflect.Uint8, reflect.Uint32:
		for bit := range v.Type().Bits() {
			add(v.Uint() ^ 1<<bit)
		}
		add(^v.Uint())
	case reflect.Slice:
		out = otherLists(v)
	}
	return out
}

// otherLists are lists with an item more, an item less, and two items the other way round.
func otherLists(v reflect.Value) []reflect.Value {
	own := func() reflect.Value { return reflect.AppendSlice(reflect.Zero(v.Type()), v) }
	zero := reflect.Zero(v.Type().Elem())
	out := []reflect.Value{reflect.Append(own(), zero), reflect.Append(own(), zero, zero)}
	n := v.Len()
	if n > 0 {
		out = append(out, reflect.Append(own(), v.Index(n-1)), own().Slice(0, n-1), own().Slice(1, n), reflect.Zero(v.Type()))
	}
	for k := 1; k < n; k++ {
		turned := own()
		turned.Index(k - 1).Set(v.Index(k))
		turned.Index(k).Set(v.Index(k - 1))
		out = append(out, turned)
	}
	return out
}

// gathered are modules by their bytes: no two of them may differ.
type gathered map[string]api.Module

func (g gathered) add(t *testing.T, what string, m api.Module) {
	t.Helper()
	b, e := Module(m)
	if e != api.OK {
		t.Fatalf("%s: %v", what, e)
	}
	if before, is := g[string(b)]; !is {
		g[string(b)] = module.Copy(m)
	} else if !module.Same(before, m) {
		t.Fatalf("%s: %v and %v have the same bytes", what, before, m)
	}
}

// unlike adds each well-formed module that differs from m in one value alone, and notes in seen the way to that.
func unlike(t *testing.T, g gathered, m api.Module, seen map[string]int) {
	t.Helper()
	m = module.Copy(m)
	g.add(t, "a module", m)
	visit(reflect.ValueOf(&m).Elem(), "", func(path string, v reflect.Value) {
		before := reflect.ValueOf(v.Interface())
		for _, other := range others(v) {
			v.Set(other)
			if module.Check(m) == api.OK {
				seen[path]++
				g.add(t, path, m)
			}
		}
		v.Set(before)
	})
	g.add(t, "a module as it was", m)
}

// paths are the ways to each field that can be changed by itself, of all items, and of instructions three deep in one another.
func paths() []string {
	out := strings.Fields(`.Types .Types[].Params .Types[].Results .Imports .Imports[].Module .Imports[].Name .Imports[].Type
		.Funcs .Funcs[].Type .Funcs[].Code.Locals .Tables .Tables[].Min .Tables[].Max .Tables[].Capped .Memories .Memories[].Min .Memories[].Max .Memories[].Capped
		.Globals .Globals[].Mut .Exports .Exports[].Name .Exports[].Kind .Exports[].Index .Started .Start
		.Elems .Elems[].Funcs .Elems[].Funcs[] .Datas .Datas[].Bytes .Datas[].Bytes[]`)
	for _, list := range []string{".Funcs[].Code.L", ".Globals[].Init", ".Elems[].Offset", ".Datas[].Offset"} {
		for _, within := range []string{"", "[].L", "[].E", "[].L[].L", "[].L[].E", "[].E[].L", "[].E[].E"} {
			out = append(out, list+within)
			for _, field := range []string{"Op", "Results", "A", "B", "N", "Tags", "Tags[]", "L", "E"} {
				out = append(out, list+within+"[]."+field)
			}
		}
	}
	return out
}

// P8.3: modules that differ in one field alone have different bytes: each field of each item, and of instructions at each depth.
func TestUnlike(t *testing.T) {
	seen := map[string]int{}
	all := gathered{}
	uncapped := sample()
	uncapped.Tables, uncapped.Memories = []api.Limits{{Min: 5}}, []api.Limits{{}}
	zero := api.Module{Started: true, Tables: []api.Limits{{Capped: true}}, Memories: []api.Limits{{Capped: true}}}
	for _, m := range append(wellFormed(), uncapped, zero) {
		unlike(t, all, m, seen)
	}
	for _, path := range paths() {
		if seen[path] == 0 {
			t.Errorf("%s was not changed", path)
		}
	}
	// No field of an item is left out of the list above.
	known := strings.Join(paths(), " ") + " "
	instructions := regexp.MustCompile(`(Code\.L|Init|Offset)\[\]`)
	for path := range seen {
		if !instructions.MatchString(path) && !strings.Contains(known, path+" ") {
			t.Errorf("%s is not known", path)
		}
	}
}

// P8.3: as deep as instructions may stand in one another.
func TestUnlikeDeep(t *testing.T) {
	all := gathered{}
	for _, n := range []int{1, 2, 3, 126, 127, 128, 450, 898, 899} {
		for _, l := range [][]api.Instr{nops(1), nops(2), constant(0), constant(1), constant(-1), {{Op: api.OpGet, A: 1}}, {{Op: api.OpTee, A: 1}}, {{Op: api.OpLoad, B: 1}}, {{Op: api.OpLoad, A: 1}}} {
			l = nest(l, n)
			for _, m := range []api.Module{
				{Funcs: []api.Func{{Code: api.Code{L: l}}}}, {Globals: []api.Global{{Init: l}}},
				{Elems: []api.Elem{{Offset: l}}}, {Datas: []api.Data{{Offset: l}}},
			} {
				all.add(t, "nested", m)
				checkEncoded(t, "nested", m)
			}
		}
	}
	if len(all) != 9*9*4 {
		t.Errorf("%d modules", len(all))
	}
}

// choices are what one list, or Start, may be in a small module.
func choices() [][]func(*api.Module) {
	none := func(*api.Module) {}
	return [][]func(*api.Module){
		{none, func(m *api.Module) { m.Types = []api.FuncType{{}} }, func(m *api.Module) { m.Types = []api.FuncType{{Results: 1}, {Params: 1}} }},
		{none, func(m *api.Module) { m.Imports = []api.Import{{}} }, func(m *api.Module) { m.Imports = []api.Import{{Module: "\x00"}} }},
		{none, func(m *api.Module) { m.Funcs = []api.Func{{}} }, func(m *api.Module) { m.Funcs = []api.Func{{Type: 1}, {Code: api.Code{Locals: 1, L: nops(1)}}} }},
		{none, func(m *api.Module) { m.Tables = []api.Limits{{}} }, func(m *api.Module) { m.Tables = []api.Limits{{Max: 1, Capped: true}} }},
		{none, func(m *api.Module) { m.Memories = []api.Limits{{}} }, func(m *api.Module) { m.Memories = []api.Limits{{Max: 1, Capped: true}} }},
		{none, func(m *api.Module) { m.Globals = []api.Global{{}} }, func(m *api.Module) { m.Globals = []api.Global{{Mut: true}, {}} }},
		{none, func(m *api.Module) { m.Exports = []api.Export{{}} }, func(m *api.Module) { m.Exports = []api.Export{{Kind: 1}, {Index: 1}} }},
		{none, func(m *api.Module) { m.Started = true }, func(m *api.Module) { m.Started, m.Start = true, 1 }},
		{none, func(m *api.Module) { m.Elems = []api.Elem{{}} }, func(m *api.Module) { m.Elems = []api.Elem{{Funcs: []uint32{0}}} }},
		{none, func(m *api.Module) { m.Datas = []api.Data{{}} }, func(m *api.Module) { m.Datas = []api.Data{{Bytes: []byte{11}}} }},
	}
}

// P8.3: all small modules of some choices differ from one another in their bytes, which are those of the second reading.
func TestUnlikeSmall(t *testing.T) {
	seen := map[string]struct{}{}
	var choose func(rest [][]func(*api.Module), m api.Module)
	choose = func(rest [][]func(*api.Module), m api.Module) {
		if len(rest) > 0 {
			for _, set := range rest[0] {
				next := m
				set(&next)
				choose(rest[1:], next)
			}
			return
		}
		b, e := Module(m)
		if e != api.OK || string(b) != string(readModule(m)) {
			t.Fatalf("Module(%v) = %v, %v", m, b, e)
		}
		seen[string(b)] = struct{}{}
	}
	choose(choices(), api.Module{})
	if len(seen) != 59049 {
		t.Errorf("%d lists of bytes of 59,049 modules", len(seen))
	}
}
