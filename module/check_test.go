package module

import (
	"math"
	"reflect"
	"slices"
	"strings"
	"testing"

	"gimlet/api"
)

func checkErr(t *testing.T, what string, m api.Module, want api.Errno) {
	t.Helper()
	if e := Check(m); e != want {
		t.Errorf("%s: Check = %d, want %d", what, e, want)
	}
}

// change makes something of a module that it is not, beside all that it is.
type change struct {
	what string
	do   func(*api.Module)
}

// grow adds empty items until there are n.
func grow[T any](l []T, n int) []T { return append(slices.Clone(l), make([]T, max(0, n-len(l)))...) }

// lengths are the changes that give each list n items; of tables and memories few.
func lengths(n, few int) []change {
	return []change{
		{"types", func(m *api.Module) { m.Types = grow(m.Types, n) }},
		{"imports", func(m *api.Module) { m.Imports = grow(m.Imports, n) }},
		{"functions", func(m *api.Module) { m.Funcs = grow(m.Funcs, n) }},
		{"tables", func(m *api.Module) { m.Tables = grow(m.Tables, few) }},
		{"memories", func(m *api.Module) { m.Memories = grow(m.Memories, few) }},
		{"globals", func(m *api.Module) { m.Globals = grow(m.Globals, n) }},
		{"exports", func(m *api.Module) { m.Exports = grow(m.Exports, n) }},
		{"elements", func(m *api.Module) { m.Elems = grow(m.Elems, n) }},
		{"data", func(m *api.Module) { m.Datas = grow(m.Datas, n) }},
		{"functions of the first element", func(m *api.Module) {
			m.Elems = grow(m.Elems, 1)
			m.Elems[0].Funcs = make([]uint32, n)
		}},
		{"functions of the last element", func(m *api.Module) { m.Elems = append(m.Elems, api.Elem{Funcs: make([]uint32, n)}) }},
	}
}

// codesOf are the changes that add a list of instructions, in each place that has one.
func codesOf(what string, l []api.Instr) []change {
	return []change{
		{what + " in a function", func(m *api.Module) { m.Funcs = append(m.Funcs, api.Func{Code: api.Code{L: l}}) }},
		{what + " in a first function", func(m *api.Module) { m.Funcs = slices.Insert(m.Funcs, 0, api.Func{Code: api.Code{L: l}}) }},
		{what + " in a global", func(m *api.Module) { m.Globals = append(m.Globals, api.Global{Init: l}) }},
		{what + " in a first global", func(m *api.Module) { m.Globals = slices.Insert(m.Globals, 0, api.Global{Init: l}) }},
		{what + " in an element", func(m *api.Module) { m.Elems = append(m.Elems, api.Elem{Offset: l}) }},
		{what + " in a first element", func(m *api.Module) { m.Elems = slices.Insert(m.Elems, 0, api.Elem{Offset: l}) }},
		{what + " in data", func(m *api.Module) { m.Datas = append(m.Datas, api.Data{Offset: l}) }},
		{what + " in first data", func(m *api.Module) { m.Datas = slices.Insert(m.Datas, 0, api.Data{Offset: l}) }},
	}
}

// namesOf are the changes that add a name, in each place that has one.
func namesOf(what, name string) []change {
	return []change{
		{what + " as a module's name", func(m *api.Module) { m.Imports = append(m.Imports, api.Import{Module: name}) }},
		{what + " as a first module's name", func(m *api.Module) { m.Imports = slices.Insert(m.Imports, 0, api.Import{Module: name}) }},
		{what + " as an import's name", func(m *api.Module) { m.Imports = append(m.Imports, api.Import{Name: name}) }},
		{what + " as an export's name", func(m *api.Module) { m.Exports = append(m.Exports, api.Export{Name: name}) }},
		{what + " as a first export's name", func(m *api.Module) { m.Exports = slices.Insert(m.Exports, 0, api.Export{Name: name}) }},
	}
}

// weights are the changes that add data: so many bytes in each.
func weights(what string, sizes ...int) []change {
	return []change{{what, func(m *api.Module) {
		for _, n := range sizes {
			m.Datas = append(m.Datas, api.Data{Bytes: make([]byte, n)})
		}
	}}}
}

// typesOf and the functions below are the changes that set, or add, a number or limits.
func typesOf(params, results int) change {
	return change{"a type", func(m *api.Module) { m.Types = append(m.Types, api.FuncType{Params: params, Results: results}) }}
}

func typeNumbers(n int) []change {
	return []change{
		{"a type number of an import", func(m *api.Module) { m.Imports = append(m.Imports, api.Import{Type: n}) }},
		{"a type number of a function", func(m *api.Module) { m.Funcs = append(m.Funcs, api.Func{Type: n}) }},
		{"a type number of a first function", func(m *api.Module) { m.Funcs = slices.Insert(m.Funcs, 0, api.Func{Type: n}) }},
	}
}

func locals(n int) change {
	return change{"Locals", func(m *api.Module) { m.Funcs = append(m.Funcs, api.Func{Code: api.Code{Locals: n}}) }}
}

func exportKind(n int) change {
	return change{"a Kind", func(m *api.Module) { m.Exports = append(m.Exports, api.Export{Kind: n}) }}
}

func table(l api.Limits) change {
	return change{"a table", func(m *api.Module) {
		m.Tables = grow(m.Tables, 1)
		m.Tables[0] = l
	}}
}

func memory(l api.Limits) change {
	return change{"a memory", func(m *api.Module) {
		m.Memories = grow(m.Memories, 1)
		m.Memories[0] = l
	}}
}

func start(n uint32, started bool) change {
	return change{"a Start", func(m *api.Module) { m.Start, m.Started = n, started }}
}

func long(n int) string { return strings.Repeat("a", n) }

// fine are the changes at the edges of what may be.
func fine() []change {
	out := slices.Concat(
		lengths(api.MaxItems, 1),
		codesOf("no instruction", nil), codesOf("a list", sampleList(3)),
		codesOf("as many as may be", nops(1<<18)), codesOf("as many Tags as may be", []api.Instr{{Op: api.OpBrTable, Tags: make([]uint32, 1<<14)}}), codesOf("as deep as may be", nest(899)),
		namesOf("no byte", ""), namesOf("1,000 bytes", long(1000)), namesOf("1,000 bytes of 500 runes", strings.Repeat("\u00e9", 500)), namesOf("the rune of an error", "\ufffd"), namesOf("a byte 0", "\x00"),
		weights("no bytes", 0), weights("2^20 bytes", 1<<20), weights("2^20 bytes in two", 1, 1<<20-1), weights("2^20 bytes in three", 1<<19, 1<<18, 1<<18), weights("2^20 bytes among none", 0, 1<<20, 0),
		typeNumbers(0), typeNumbers(1), typeNumbers(1<<14), typeNumbers(1<<31-1),
		[]change{typesOf(0, 0), typesOf(255, 0), typesOf(0, 1), typesOf(255, 1), locals(0), locals(1), locals(50000), locals(1 << 14), locals(1<<14 + 1)},
		[]change{exportKind(0), exportKind(1), exportKind(2), exportKind(3)},
		[]change{table(api.Limits{}), table(api.Limits{Min: 1 << 20}), table(api.Limits{Capped: true}), table(api.Limits{Max: 1 << 20, Capped: true}), table(api.Limits{Min: 1 << 20, Max: 1 << 20, Capped: true}), table(api.Limits{Min: 3, Max: 3, Capped: true})},
		[]change{memory(api.Limits{}), memory(api.Limits{Min: 1 << 16}), memory(api.Limits{Capped: true}), memory(api.Limits{Max: 1 << 16, Capped: true}), memory(api.Limits{Min: 1 << 16, Max: 1 << 16, Capped: true}), memory(api.Limits{Min: 3, Max: 3, Capped: true})},
		[]change{start(0, false), start(0, true), start(1, true), start(1<<31, true), start(math.MaxUint32, true)},
	)
	return out
}

// tooMany, tooLong and wrong are the changes after which Check returns ErrMany, ErrLong and ErrArg; each is light, so that all pairs of them can be tried.
func tooMany() []change {
	return slices.Concat(
		lengths(api.MaxItems+1, 2), lengths(2*api.MaxItems, 3),
		codesOf("too many Tags", []api.Instr{{Op: api.OpBrTable, Tags: make([]uint32, 1<<14+1)}}),
		codesOf("too deep", nest(900)),
	)
}

func tooLong() []change {
	return slices.Concat(
		namesOf("1,001 bytes", long(1001)), namesOf("1,001 bytes, no text", "\xff"+long(1000)), namesOf("501 runes", strings.Repeat("\u00e9", 501)), namesOf("1,024 bytes", long(1024)), namesOf("2^17 bytes", long(1<<17)),
		weights("2^20 + 1 bytes", 1<<20+1), weights("2^20 + 1 bytes in two", 1<<20, 1), weights("2^20 + 1 bytes in two", 1, 1<<20), weights("2^20 + 1 bytes in four", 1<<19, 1<<18, 1<<18, 1), weights("2^21 bytes", 1<<20, 1<<20), weights("none behind too many", 1<<20+1, 0),
	)
}

func wrong() []change {
	manyWrong := []api.Instr{{Op: api.OpBrTable, Tags: make([]uint32, 1<<14+1), B: 1}}
	return slices.Concat(
		codesOf("no operation", []api.Instr{{Op: 5}}), codesOf("an operation -1", []api.Instr{{Op: -1}}), codesOf("no operation, within", []api.Instr{{Op: api.OpBlock, L: []api.Instr{{Op: api.OpIf, E: []api.Instr{{Op: api.OpEnd}}}}}}),
		codesOf("a field too many", append(nops(2), api.Instr{Op: api.OpNop, A: 1})), codesOf("Results of 2", []api.Instr{{Op: api.OpBlock, Results: 2}}), codesOf("too many, but wrong", manyWrong), codesOf("too deep, but wrong", append(nest(900), api.Instr{Op: 5})),
		namesOf("a byte 255", "\xff"), namesOf("half a rune", "a\xc3"), namesOf("a surrogate", "\xed\xa0\x80"), namesOf("1,000 bytes", long(999)+"\x80"),
		typeNumbers(-1), typeNumbers(1<<31), typeNumbers(math.MinInt), typeNumbers(math.MaxInt), typeNumbers(1<<32), typeNumbers(-1<<32), typeNumbers(-1<<31),
		[]change{typesOf(256, 0), typesOf(-1, 0), typesOf(0, 2), typesOf(0, -1), typesOf(1<<32, 0), typesOf(0, 1<<32)},
		[]change{locals(-1), locals(50001), locals(math.MinInt), locals(math.MaxInt), locals(1 << 32), locals(1 << 16)},
		[]change{exportKind(-1), exportKind(4), exportKind(math.MinInt), exportKind(math.MaxInt), exportKind(1 << 32), exportKind(256)},
		[]change{table(api.Limits{Min: 1<<20 + 1}), table(api.Limits{Max: 1}), table(api.Limits{Max: 1<<20 + 1, Capped: true}), table(api.Limits{Min: 2, Max: 1, Capped: true}), table(api.Limits{Min: math.MaxUint32})},
		[]change{memory(api.Limits{Min: 1<<16 + 1}), memory(api.Limits{Max: 1}), memory(api.Limits{Max: 1<<16 + 1, Capped: true}), memory(api.Limits{Min: 2, Max: 1, Capped: true}), memory(api.Limits{Min: 1 << 20})},
		[]change{start(1, false), start(1<<31, false), start(math.MaxUint32, false)},
	)
}

// P7.1: each change alone, to a module with nothing and to one with something everywhere.
func TestCheckEach(t *testing.T) {
	checkErr(t, "nothing", api.Module{}, api.OK)
	checkErr(t, "items without anything", bare(), api.OK)
	checkErr(t, "the sample", sample(), api.OK)
	checkErr(t, "a full one", full(), api.OK)
	for _, group := range []struct {
		want api.Errno
		all  []change
	}{{api.OK, fine()}, {api.ErrMany, tooMany()}, {api.ErrLong, tooLong()}, {api.ErrArg, wrong()}} {
		for _, c := range group.all {
			m := api.Module{}
			c.do(&m)
			checkErr(t, c.what, m, group.want)
			m = sample()
			if strings.Contains(c.what, "2^20") {
				m.Datas = nil
			}
			c.do(&m)
			checkErr(t, c.what+", in the sample", m, group.want)
		}
	}
}

// P7.1: a list of instructions that is too long by itself, where others are as long as may be, or wrong.
func TestCheckCode(t *testing.T) {
	for _, c := range codesOf("one too many", nops(1<<18+1)) {
		for _, l := range [][]api.Instr{nil, nops(1 << 18), {{Op: 5}}} {
			for _, other := range codesOf("another list", l) {
				m := api.Module{}
				c.do(&m)
				other.do(&m)
				checkErr(t, c.what+", "+other.what, m, api.ErrMany)
			}
		}
	}
	for _, c := range codesOf("too many, and wrong", append(nops(1<<18), api.Instr{Op: 5})) {
		m := api.Module{}
		c.do(&m)
		checkErr(t, c.what, m, api.ErrArg)
		m.Exports = []api.Export{{Name: long(1001)}}
		checkErr(t, c.what+", with a long name", m, api.ErrLong)
	}
	// How many there are together is no matter.
	checkErr(t, "many lists", api.Module{Funcs: slices.Repeat([]api.Func{{Code: api.Code{L: nops(1 << 18)}}}, 5)}, api.OK)
}

// Rule 1: ErrMany comes ahead of ErrLong, and that ahead of ErrArg, whichever parts they are of.
func TestCheckOrder(t *testing.T) {
	groups := []struct {
		e   api.Errno
		all []change
	}{{api.ErrMany, tooMany()}, {api.ErrLong, tooLong()}, {api.ErrArg, wrong()}}
	for k, first := range groups {
		for _, second := range groups[k:] {
			for _, a := range first.all {
				for _, b := range second.all {
					m := api.Module{}
					a.do(&m)
					b.do(&m)
					checkErr(t, a.what+"; "+b.what, m, first.e)
				}
			}
		}
	}
	for _, a := range tooMany() {
		m := api.Module{Start: 1, Exports: []api.Export{{Name: long(1001), Kind: 4}}}
		a.do(&m)
		checkErr(t, a.what+", with all else", m, api.ErrMany)
	}
}

// Check, Same, TypeOf, Find and Size leave a module as it was, and what its lists have to spare.
func TestLeftAlone(t *testing.T) {
	m := shared()
	before := cloned(m)
	spare := m.Datas[1].Bytes[:6]
	Check(m)
	Same(m, m)
	TypeOf(m, 0)
	Find(m, "g", 3)
	Size(m)
	if !reflect.DeepEqual(m, before) || string(spare) != "shared" {
		t.Error("the module was changed")
	}
}

// without calls f with each module that lacks one item of one list, or all items of one.
func without(m api.Module, f func(path string, m api.Module)) {
	rest := cloned(m)
	visitModule(&rest, func(path string, v reflect.Value) {
		if v.Kind() != reflect.Slice {
			return
		}
		before := reflect.ValueOf(v.Interface())
		n := v.Len()
		for _, k := range []int{0, 1, n / 2, n - 2, n - 1} {
			if k < 0 || k >= n {
				continue
			}
			left := reflect.MakeSlice(v.Type(), 0, n-1)
			left = reflect.AppendSlice(left, before.Slice(0, k))
			v.Set(reflect.AppendSlice(left, before.Slice(k+1, n)))
			f(path, rest)
		}
		v.SetZero()
		f(path, rest)
		v.Set(before)
	})
	rest.Started, rest.Start = false, 0
	f(".Start", rest)
}

// P7.3: a module that passes Check still does so without any one of its parts, and without one more of those that are left.
func TestLeftOut(t *testing.T) {
	seen := 0
	for _, m := range []api.Module{{}, bare(), sample(), deeper(6), shared()} {
		checkErr(t, "the whole", m, api.OK)
		without(m, func(path string, m api.Module) {
			checkErr(t, "without "+path, m, api.OK)
			if seen%7 == 0 {
				without(m, func(also string, m api.Module) { checkErr(t, "without "+path+", "+also, m, api.OK) })
			}
			seen++
		})
	}
	if seen < 300 {
		t.Errorf("%d parts were left out", seen)
	}
}

// P7.3, of modules at the edges of what may be.
func TestLeftOutOfFull(t *testing.T) {
	for _, c := range fine() {
		if strings.Contains(c.what, "as many as may be") {
			continue // too many parts to leave out each
		}
		m := api.Module{}
		c.do(&m)
		m.Types, m.Imports, m.Funcs = tail(m.Types), tail(m.Imports), tail(m.Funcs)
		m.Globals, m.Exports, m.Elems, m.Datas = tail(m.Globals), tail(m.Exports), tail(m.Elems), tail(m.Datas)
		without(m, func(path string, m api.Module) { checkErr(t, c.what+" without "+path, m, api.OK) })
	}
	m := full()
	for _, rest := range []api.Module{
		{Types: m.Types[1:], Imports: m.Imports[1:], Funcs: m.Funcs[1:], Globals: m.Globals[1:], Exports: m.Exports[1:], Elems: m.Elems[1:], Datas: m.Datas[1:]},
		{Funcs: m.Funcs, Datas: m.Datas, Elems: m.Elems}, {Types: m.Types, Exports: m.Exports}, {Imports: m.Imports, Globals: m.Globals, Tables: m.Tables},
	} {
		checkErr(t, "a part of the full one", rest, api.OK)
	}
}

// tail is at most the last three items of a list.
func tail[T any](l []T) []T { return l[max(0, len(l)-3):] }

// The chapter's examples.
func TestExamples(t *testing.T) {
	checkErr(t, "a module with nothing", api.Module{}, api.OK)
	checkErr(t, "two memories", api.Module{Memories: []api.Limits{{}, {}}}, api.ErrMany)
	checkErr(t, "a Start of 1, not Started", api.Module{Start: 1}, api.ErrArg)
	checkErr(t, "an export of the name 255", api.Module{Exports: []api.Export{{Name: "\xff"}}}, api.ErrArg)
	checkErr(t, "a name of 1,001 bytes", api.Module{Exports: []api.Export{{Name: long(1001)}}}, api.ErrLong)
	checkErr(t, "an export of the kind 4", api.Module{Exports: []api.Export{{Kind: 4}}}, api.ErrArg)
}
