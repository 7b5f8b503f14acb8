package place

import (
	"slices"
	"strings"
	"testing"

	"gimlet/api"
)

// fault is something wrong with a module, which the sample gets beside all that it has.
type fault struct {
	what string
	do   func(*api.Module)
}

// invalids are what makes a module one that is not valid: of each section, and of the module as a whole.
func invalids() []fault {
	return []fault{
		{"a type of 256 words", func(m *api.Module) { m.Types = append(m.Types, api.FuncType{Params: 256}) }},
		{"too many types", func(m *api.Module) { m.Types = make([]api.FuncType, api.MaxItems+1) }},
		{"a long name", func(m *api.Module) {
			m.Exports = append(m.Exports, api.Export{Name: strings.Repeat("a", 1001), Index: 3})
		}},
		{"a name that is no text", func(m *api.Module) { m.Imports = append(m.Imports, api.Import{Module: "host", Name: "\xff"}) }},
		{"an import without a type", func(m *api.Module) { m.Imports[1].Type = 9 }},
		{"an import with a type below 0", func(m *api.Module) { m.Imports[1].Type = -1 }},
		{"a function without a type", func(m *api.Module) { m.Funcs[1].Type = 9 }},
		{"two tables", func(m *api.Module) { m.Tables = []api.Limits{{Min: 9}, {Min: 9}} }},
		{"two memories", func(m *api.Module) { m.Memories = []api.Limits{{Min: 9}, {Min: 9}} }},
		{"a table that is too large", func(m *api.Module) { m.Tables = []api.Limits{{Min: 1<<20 + 1}} }},
		{"a memory that is too large", func(m *api.Module) { m.Memories = []api.Limits{{Min: 65537}} }},
		{"a memory with a Max below its Min", func(m *api.Module) { m.Memories[0].Max = 0 }},
		{"a global without Init", func(m *api.Module) { m.Globals[0].Init = nil }},
		{"a global with another global's word", func(m *api.Module) { m.Globals[0].Init = []api.Instr{{Op: api.OpGetGlobal, A: 1}} }},
		{"an export of nothing", func(m *api.Module) { m.Exports[0].Index = 9 }},
		{"two exports of a name", func(m *api.Module) { m.Exports[1].Name = "f" }},
		{"a Start that is missing", func(m *api.Module) { m.Start = 9 }},
		{"a Start that takes a word", func(m *api.Module) { m.Start = 0 }},
		{"a Start, not Started", func(m *api.Module) { m.Started = false }},
		{"elements without a table", func(m *api.Module) { m.Tables = nil }},
		{"an element without an Offset", func(m *api.Module) { m.Elems[1].Offset = nil }},
		{"an element with two Offsets", func(m *api.Module) { m.Elems[1].Offset = slices.Repeat(number(0), 2) }},
		{"an element of a function that is missing", func(m *api.Module) { m.Elems[1].Funcs = []uint32{7} }},
		{"a function that leaves a word", func(m *api.Module) { m.Funcs[2].Code.L = number(1) }},
		{"a function that is too deep", func(m *api.Module) { m.Funcs[2].Code.L = nested(901) }},
		{"data without a memory", func(m *api.Module) { m.Memories = nil }},
		{"data without an Offset", func(m *api.Module) { m.Datas[3].Offset = nil }},
		{"too many data", func(m *api.Module) {
			m.Datas = append(m.Datas, api.Data{Offset: number(0), Bytes: make([]byte, 1<<20)})
		}},
	}
}

func nested(n int) []api.Instr {
	var l []api.Instr
	for range n {
		l = []api.Instr{{Op: api.OpBlock, L: l}}
	}
	return l
}

// unhad are what makes a valid module one with an import that the host does not have.
func unhad() []fault {
	return []fault{
		{"another type", func(m *api.Module) { m.Imports[1].Type = typePut }},
		{"another name", func(m *api.Module) { m.Imports[2].Name = "put" }},
		{"another module", func(m *api.Module) { m.Imports[0].Module = "" }},
		{"what the type's number says now", func(m *api.Module) { m.Types[typeGet] = api.FuncType{Results: 1, Params: 1} }},
	}
}

// beyond are what makes a valid module one with an element, or data, that does not fit.
func beyond() []fault {
	return []fault{
		{"an element", func(m *api.Module) { m.Elems[0].Offset = number(5) }},
		{"an element of nothing", func(m *api.Module) { m.Elems[3].Offset = number(7) }},
		{"a smaller table", func(m *api.Module) { m.Tables[0].Min = 5 }},
		{"data", func(m *api.Module) { m.Datas[1].Offset = number(131071) }},
		{"data of nothing", func(m *api.Module) { m.Datas[3].Offset = number(131073) }},
		{"a smaller memory", func(m *api.Module) { m.Memories[0].Min = 1 }},
	}
}

// P13.1: each fault alone; and rule 1: what is not valid comes ahead of what the host does not have, and that ahead of what does not fit.
func TestRefused(t *testing.T) {
	newAs(t, "the sample", sample(), api.OK)
	groups := []struct {
		e   api.Errno
		all []fault
	}{{api.ErrArg, invalids()}, {api.ErrImport, unhad()}, {api.ErrBounds, beyond()}}
	for k, first := range groups {
		for _, a := range first.all {
			m := sample()
			a.do(&m)
			newAs(t, a.what, m, first.e)
			for _, later := range groups[k+1:] {
				for _, b := range later.all {
					m := sample()
					b.do(&m)
					a.do(&m)
					newAs(t, a.what+" and "+b.what, m, first.e)
				}
			}
		}
	}
}

// P13.1: all three kinds at once.
func TestAllWrong(t *testing.T) {
	for _, a := range invalids() {
		m := sample()
		m.Elems[0].Offset = number(99)
		m.Datas[0].Offset = number(1 << 31)
		m.Imports[2].Module = "env"
		newAs(t, "without "+a.what, m, api.ErrImport)
		a.do(&m)
		newAs(t, a.what, m, api.ErrArg)
	}
}

// P13.1: a module with nothing, and modules with one thing alone, are made ready.
func TestLeast(t *testing.T) {
	for what, m := range map[string]api.Module{
		"nothing":               {},
		"types":                 {Types: types()},
		"functions":             functions(1),
		"an import":             {Types: types(), Imports: []api.Import{putc()}},
		"a table of nothing":    {Tables: []api.Limits{{}}},
		"an element of nothing": {Tables: []api.Limits{{}}, Elems: []api.Elem{elem(0)}},
		"a memory of nothing":   {Memories: []api.Limits{{}}},
		"data of nothing":       {Memories: []api.Limits{{}}, Datas: []api.Data{data(0)}},
		"a global":              {Globals: []api.Global{{Init: number(0)}}},
	} {
		newAs(t, what, m, api.OK)
		r, e := read(m)
		if e != api.OK {
			t.Fatalf("%s: the second reading says %v", what, e)
		}
		sameAs(t, what, must(t, m), r)
	}
}
