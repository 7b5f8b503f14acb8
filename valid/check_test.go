package valid

import (
	"math"
	"slices"
	"testing"

	"gimlet/api"
)

// checks holds what is wrong with a module against what is wanted.
func checks(t *testing.T, what string, m api.Module, want api.Wrong) {
	t.Helper()
	if w := Check(m); w != want {
		t.Errorf("%s: Check = %+v, want %+v", what, w, want)
	}
}

// P11.1: which functions Body knows: the module's own, by their numbers among these.
func TestBodyNumbers(t *testing.T) {
	m := rich()
	m.Funcs[0].Code.L = list(with(api.OpGet, 9))
	m.Funcs = append(m.Funcs, api.Func{Type: 0, Code: api.Code{L: words(1)}}, api.Func{Type: 6}, api.Func{Type: math.MaxInt32, Code: api.Code{L: nops(1)}}, api.Func{})
	for _, c := range []struct {
		n    int
		want api.Errno
		at   int
	}{
		{math.MinInt, api.ErrMissing, 0}, {-1 << 32, api.ErrMissing, 0}, {-2, api.ErrMissing, 0}, {-1, api.ErrMissing, 0},
		{0, api.ErrMissing, 1}, {1, api.OK, 0}, {2, api.ErrLeft, 0}, {3, api.ErrMissing, 0}, {4, api.ErrMissing, 0}, {5, api.OK, 0},
		{6, api.ErrMissing, 0}, {7, api.ErrMissing, 0}, {8, api.ErrMissing, 0}, {math.MaxInt32, api.ErrMissing, 0}, {1 << 32, api.ErrMissing, 0}, {math.MaxInt, api.ErrMissing, 0},
	} {
		if e, at := Body(m, c.n); e != c.want || at != c.at {
			t.Errorf("Body %d = %v, %d; want %v, %d", c.n, e, at, c.want, c.at)
		}
	}
	// Imports that do not have their types are not asked for them.
	m.Imports = append(m.Imports, api.Import{Type: 99})
	if e, at := Body(m, 1); e != api.OK || at != 0 {
		t.Errorf("behind an import without a type: %v, %d", e, at)
	}
	for n := -1; n < 3; n++ {
		if e, at := Body(api.Module{Imports: m.Imports, Types: m.Types}, n); e != api.ErrMissing || at != 0 {
			t.Errorf("of no function, %d: %v, %d", n, e, at)
		}
	}
}

// unformed are modules that module.Check refuses, each with its error.
func unformed() map[api.Errno][]api.Module {
	change := func(do func(*api.Module)) api.Module {
		m := several()
		do(&m)
		return m
	}
	return map[api.Errno][]api.Module{
		api.ErrArg: {
			change(func(m *api.Module) { m.Started = false }),
			change(func(m *api.Module) { m.Types = append(m.Types, api.FuncType{Results: 2}) }),
			change(func(m *api.Module) { m.Types[0].Params = 256 }),
			change(func(m *api.Module) { m.Imports[1].Type = -1 }),
			change(func(m *api.Module) { m.Imports[1].Name = "\xff" }),
			change(func(m *api.Module) { m.Funcs[1].Type = -1 }),
			change(func(m *api.Module) { m.Funcs[1].Code.Locals = 50001 }),
			change(func(m *api.Module) { m.Funcs[1].Code.L = list(op(5)) }),
			change(func(m *api.Module) { m.Funcs[0].Code.L = list(block(2)) }),
			change(func(m *api.Module) { m.Tables[0] = api.Limits{Min: 2, Max: 1, Capped: true} }),
			change(func(m *api.Module) { m.Memories[0].Min = 65537 }),
			change(func(m *api.Module) { m.Globals[1].Init = list(api.Instr{Op: api.OpConst, A: 1}) }),
			change(func(m *api.Module) { m.Exports[1].Kind = 4 }),
			change(func(m *api.Module) { m.Elems[1].Offset = list(op(-1)) }),
			change(func(m *api.Module) { m.Datas[1].Offset = list(api.Instr{Op: api.OpNop, N: 1}) }),
		},
		api.ErrLong: {
			change(func(m *api.Module) { m.Exports[2].Name = string(make([]byte, 1001)) }),
			change(func(m *api.Module) { m.Datas[2].Bytes = make([]byte, api.MaxBytes+1) }),
		},
		api.ErrMany: {
			change(func(m *api.Module) { m.Tables = make([]api.Limits, 2) }),
			change(func(m *api.Module) { m.Memories = make([]api.Limits, 2) }),
			change(func(m *api.Module) { m.Types = make([]api.FuncType, api.MaxItems+1) }),
			change(func(m *api.Module) { m.Elems[0].Funcs = make([]uint32, api.MaxItems+1) }),
			change(func(m *api.Module) { m.Funcs[0].Code.L = nested(901, nil) }),
		},
	}
}

// What module.Check refuses: its error, ahead of everything, and no place. So it is for what is wrong with types, tables and memories.
func TestUnformed(t *testing.T) {
	checks(t, "as it was", several(), api.Wrong{})
	for want, all := range unformed() {
		for k, m := range all {
			for _, spoil := range []func(*api.Module){
				func(*api.Module) {},
				func(m *api.Module) { m.Imports = append(m.Imports, api.Import{Type: 99}) },
				func(m *api.Module) { m.Funcs = append(m.Funcs, api.Func{Type: 99}) },
				func(m *api.Module) { m.Datas = append(m.Datas, api.Data{}) },
			} {
				bad := cloned(m)
				spoil(&bad)
				checks(t, "not well-formed", bad, api.Wrong{Err: want})
				for n := -1; n <= len(bad.Funcs); n++ {
					if e, at := Body(bad, n); e != want || at != 0 {
						t.Errorf("%v, module %d: Body %d = %v, %d", want, k, n, e, at)
					}
				}
			}
		}
	}
}

// insert returns the list with an item more, at k.
func insert[T any](l []T, k int, x T) []T { return slices.Insert(slices.Clone(l), k, x) }

// wrongItems are the changes that put an item that is wrong into a list of the module several, at k from 0 to 3, with what is wanted; At of the item's instruction.
func wrongItems(k int) map[string]struct {
	do   func(*api.Module)
	want api.Wrong
} {
	type change = struct {
		do   func(*api.Module)
		want api.Wrong
	}
	return map[string]change{
		"a type":                        {func(m *api.Module) { m.Types = insert(m.Types, k, api.FuncType{Params: -1}) }, api.Wrong{Err: api.ErrArg}},
		"an import's type":              {func(m *api.Module) { m.Imports = insert(m.Imports, k, api.Import{Type: 6}) }, api.Wrong{Err: api.ErrMissing, Section: 2, Item: k}},
		"an import's type, far beyond":  {func(m *api.Module) { m.Imports = insert(m.Imports, k, api.Import{Type: math.MaxInt32}) }, api.Wrong{Err: api.ErrMissing, Section: 2, Item: k}},
		"a function's type":             {func(m *api.Module) { m.Funcs = insert(m.Funcs, k, api.Func{Type: 6}) }, api.Wrong{Err: api.ErrMissing, Section: 3, Item: k}},
		"a function's type, far beyond": {func(m *api.Module) { m.Funcs = insert(m.Funcs, k, api.Func{Type: math.MaxInt32}) }, api.Wrong{Err: api.ErrMissing, Section: 3, Item: k}},
		"a global of nothing":           {func(m *api.Module) { m.Globals = insert(m.Globals, k, api.Global{}) }, api.Wrong{Err: api.ErrConst, Section: 6, Item: k}},
		"a global of two words":         {func(m *api.Module) { m.Globals = insert(m.Globals, k, api.Global{Mut: true, Init: words(2)}) }, api.Wrong{Err: api.ErrConst, Section: 6, Item: k}},
		"a global of another": {func(m *api.Module) {
			m.Globals = insert(m.Globals, k, api.Global{Init: list(with(api.OpGetGlobal, 0))})
		}, api.Wrong{Err: api.ErrConst, Section: 6, Item: k}},
		"an export's function":  {func(m *api.Module) { m.Exports = insert(m.Exports, k, api.Export{Name: "x", Index: 6}) }, api.Wrong{Err: api.ErrMissing, Section: 7, Item: k}},
		"an export's memory":    {func(m *api.Module) { m.Exports = insert(m.Exports, k, api.Export{Name: "x", Kind: 2, Index: 1}) }, api.Wrong{Err: api.ErrMissing, Section: 7, Item: k}},
		"an element's offset":   {func(m *api.Module) { m.Elems = insert(m.Elems, k, api.Elem{Offset: nops(1)}) }, api.Wrong{Err: api.ErrConst, Section: 9, Item: k}},
		"an element's function": {func(m *api.Module) { m.Elems = insert(m.Elems, k, api.Elem{Offset: words(1), Funcs: []uint32{6}}) }, api.Wrong{Err: api.ErrMissing, Section: 9, Item: k}},
		"an element's last function": {func(m *api.Module) {
			m.Elems = insert(m.Elems, k, api.Elem{Offset: words(1), Funcs: []uint32{0, 5, math.MaxUint32}})
		}, api.Wrong{Err: api.ErrMissing, Section: 9, Item: k}},
		"an element's first function": {func(m *api.Module) {
			m.Elems = insert(m.Elems, k, api.Elem{Offset: words(1), Funcs: []uint32{6, 0, 5}})
		}, api.Wrong{Err: api.ErrMissing, Section: 9, Item: k}},
		"an instruction": {func(m *api.Module) {
			m.Funcs = insert(m.Funcs, k, api.Func{Code: api.Code{L: list(op(api.OpNop), block(0, op(api.OpDrop)))}})
		}, api.Wrong{Err: api.ErrUnder, Section: 10, Item: k, At: 3}},
		"a function's end": {func(m *api.Module) {
			m.Funcs = insert(m.Funcs, k, api.Func{Code: api.Code{L: list(op(api.OpNop), word(1))}})
		}, api.Wrong{Err: api.ErrLeft, Section: 10, Item: k}},
		"a list's end": {func(m *api.Module) {
			m.Funcs = insert(m.Funcs, k, api.Func{Code: api.Code{L: list(op(api.OpNop), block(0, word(1)))}})
		}, api.Wrong{Err: api.ErrLeft, Section: 10, Item: k, At: 2}},
		"data's offset": {func(m *api.Module) { m.Datas = insert(m.Datas, k, api.Data{Offset: words(2)}) }, api.Wrong{Err: api.ErrConst, Section: 11, Item: k}},
	}
}

// P11.2: an item that is wrong, as the first one, between others, and as the last one.
func TestCheckItems(t *testing.T) {
	for k := range 3 {
		for what, c := range wrongItems(k) {
			m := several()
			// One function more would be another start.
			m.Started, m.Start = false, 0
			c.do(&m)
			checks(t, what, m, c.want)
			c.do(&m)
			checks(t, what+", twice", m, c.want)
		}
	}
	for what, c := range map[string]struct {
		do   func(*api.Module)
		want api.Wrong
	}{
		"no table for elements": {func(m *api.Module) { m.Tables = nil }, api.Wrong{Err: api.ErrMissing, Section: 9}},
		"no memory for data":    {func(m *api.Module) { m.Memories = nil }, api.Wrong{Err: api.ErrMissing, Section: 11}},
		"a wrong table":         {func(m *api.Module) { m.Tables[0].Min = 1<<20 + 1 }, api.Wrong{Err: api.ErrArg}},
		"a wrong memory":        {func(m *api.Module) { m.Memories[0] = api.Limits{Min: 1, Capped: true} }, api.Wrong{Err: api.ErrArg}},
		"a start beyond":        {func(m *api.Module) { m.Start = 6 }, api.Wrong{Err: api.ErrMissing, Section: 8}},
		"no type":               {func(m *api.Module) { m.Types = nil }, api.Wrong{Err: api.ErrMissing, Section: 2}},
	} {
		m := several()
		c.do(&m)
		checks(t, what, m, c.want)
	}
}

// Exports of each Kind: of the last one there is, one beyond, and far beyond; of none.
func TestCheckExports(t *testing.T) {
	m := several()
	for kind, many := range []uint32{6, 1, 1, 2} {
		for _, index := range []uint32{0, many - 1, many, many + 1, 6, 1 << 31, math.MaxUint32} {
			want := api.Wrong{}
			if index >= many {
				want = api.Wrong{Err: api.ErrMissing, Section: 7, Item: 1}
			}
			m.Exports = []api.Export{{Name: "a"}, {Name: "b", Kind: kind, Index: index}}
			checks(t, "an export", m, want)
		}
		for index := range uint32(3) {
			empty := api.Module{Exports: []api.Export{{Kind: kind, Index: index}}}
			checks(t, "an export of nothing", empty, api.Wrong{Err: api.ErrMissing, Section: 7})
		}
	}
	// Only the host's functions, or only its own.
	for index := range uint32(5) {
		want := api.Wrong{}
		if index >= 3 {
			want = api.Wrong{Err: api.ErrMissing, Section: 7}
		}
		x := []api.Export{{Index: index}}
		checks(t, "one of three imports", api.Module{Types: []api.FuncType{{}}, Imports: make([]api.Import, 3), Exports: x}, want)
		checks(t, "one of three functions", api.Module{Types: []api.FuncType{{}}, Funcs: make([]api.Func, 3), Exports: x}, want)
	}
}

// Exports of one Name, whatever else they are: the later one is wrong.
func TestCheckNames(t *testing.T) {
	m := several()
	for _, c := range []struct {
		names string
		item  int // the first that is there already; -1: none is
	}{
		{"", -1}, {"a", -1}, {"ab", -1}, {"abcdef", -1}, {"aa", 1}, {"aba", 2}, {"abb", 2}, {"aaa", 1}, {"abab", 2}, {"abba", 2}, {"abca", 3}, {"abcdec", 5}, {"aA", -1}, {"aAa", 2},
	} {
		for kind := range 4 {
			m.Exports = nil
			for k, r := range c.names {
				m.Exports = append(m.Exports, api.Export{Name: string(r), Kind: (kind + k) % 4})
			}
			want := api.Wrong{}
			if c.item >= 0 {
				want = api.Wrong{Err: api.ErrThere, Section: 7, Item: c.item}
			}
			checks(t, c.names, m, want)
		}
	}
	for _, c := range []struct {
		a, b string
		same bool
	}{{"", "", true}, {"", "a", false}, {"a", "a\x00", false}, {"\u00e9", "e\u0301", false}, {"\u00e9", "\u00e9", true}, {"ab", "ab ", false}} {
		m.Exports = []api.Export{{Name: "x"}, {Name: c.a}, {Name: c.b, Kind: 2}}
		want := api.Wrong{}
		if c.same {
			want = api.Wrong{Err: api.ErrThere, Section: 7, Item: 2}
		}
		checks(t, c.a+", "+c.b, m, want)
	}
	// One that refers to nothing, and has an earlier one's name: what is missing comes first, but an earlier item ahead of it.
	m.Exports = []api.Export{{Name: "a"}, {Name: "a", Index: 99}}
	checks(t, "both", m, api.Wrong{Err: api.ErrMissing, Section: 7, Item: 1})
	m.Exports = []api.Export{{Name: "a"}, {Name: "a"}, {Name: "b", Index: 99}}
	checks(t, "one behind the other", m, api.Wrong{Err: api.ErrThere, Section: 7, Item: 1})
	m.Exports = []api.Export{{Name: "a", Index: 99}, {Name: "a"}}
	checks(t, "one ahead of the other", m, api.Wrong{Err: api.ErrMissing, Section: 7, Item: 0})
	// Imports have names of their own, which may be the same.
	m.Exports = []api.Export{{Name: "getc"}, {Name: "putc"}, {Name: "host"}}
	m.Imports[1] = m.Imports[0]
	checks(t, "imports of one name", m, api.Wrong{})
}

func TestCheckStart(t *testing.T) {
	types := []api.FuncType{{}, {Params: 1}, {Results: 1}, {Params: 255, Results: 1}}
	made := func(kinds ...int) api.Module {
		m := api.Module{Types: types, Started: true}
		for k, kind := range kinds {
			if k < 2 {
				m.Imports = append(m.Imports, api.Import{Type: kind})
			} else {
				m.Funcs = append(m.Funcs, api.Func{Type: kind, Code: api.Code{L: words(types[kind].Results)}})
			}
		}
		return m
	}
	m := made(0, 1, 0, 1, 2, 3, 0)
	for n, want := range []api.Errno{api.OK, api.ErrShape, api.OK, api.ErrShape, api.ErrShape, api.ErrShape, api.OK, api.ErrMissing, api.ErrMissing} {
		m.Start = uint32(n)
		w := api.Wrong{Err: want, Section: 8}
		if want == api.OK {
			w = api.Wrong{}
		}
		checks(t, "a start", m, w)
	}
	for _, n := range []uint32{1 << 16, 1 << 31, math.MaxUint32} {
		m.Start = n
		checks(t, "a start far beyond", m, api.Wrong{Err: api.ErrMissing, Section: 8})
	}
	// Not Started: no function is asked for, but a number other than 0 is not well-formed.
	m.Started, m.Start = false, 1
	checks(t, "not started, with a number", m, api.Wrong{Err: api.ErrArg})
	m.Start = 0
	m.Imports[0].Type = 3
	checks(t, "not started", m, api.Wrong{})
	checks(t, "no function", api.Module{}, api.Wrong{})
	checks(t, "no function, and started", api.Module{Started: true}, api.Wrong{Err: api.ErrMissing, Section: 8})
}

func TestCheckElems(t *testing.T) {
	m := several()
	for _, c := range []struct {
		funcs []uint32
		want  api.Errno
	}{
		{nil, api.OK}, {[]uint32{}, api.OK}, {[]uint32{0}, api.OK}, {[]uint32{0, 1, 2, 3, 4, 5}, api.OK}, {[]uint32{5, 5, 5}, api.OK}, {[]uint32{6}, api.ErrMissing}, {[]uint32{0, 6}, api.ErrMissing}, {[]uint32{6, 0}, api.ErrMissing}, {[]uint32{0, 1 << 31, 0}, api.ErrMissing}, {[]uint32{math.MaxUint32}, api.ErrMissing},
	} {
		for _, l := range [][]api.Instr{words(1), list(word(-1)), nil, nops(1), words(2), list(with(api.OpGetGlobal, 0))} {
			want := c.want
			if !isConst(l) {
				want = api.ErrConst
			}
			wrong := api.Wrong{Err: want, Section: 9, Item: 1}
			if want == api.OK {
				wrong = api.Wrong{}
			}
			m.Elems = []api.Elem{{Offset: words(1)}, {Offset: l, Funcs: c.funcs}}
			checks(t, "an element", m, wrong)
			none := m
			none.Tables = nil
			checks(t, "an element without a table", none, api.Wrong{Err: api.ErrMissing, Section: 9})
			none.Elems = none.Elems[1:]
			checks(t, "an element without a table", none, api.Wrong{Err: api.ErrMissing, Section: 9})
		}
	}
}

func TestCheckDatas(t *testing.T) {
	m := several()
	for _, l := range [][]api.Instr{words(1), list(word(-1)), nil, nops(1), words(2), list(with(api.OpGetGlobal, 0))} {
		for _, b := range []string{"", "a", "abc"} {
			want := api.Wrong{}
			if !isConst(l) {
				want = api.Wrong{Err: api.ErrConst, Section: 11, Item: 1}
			}
			m.Datas = []api.Data{{Offset: words(1)}, {Offset: l, Bytes: []byte(b)}}
			checks(t, "data", m, want)
			none := m
			none.Memories = nil
			checks(t, "data without a memory", none, api.Wrong{Err: api.ErrMissing, Section: 11})
		}
	}
}
