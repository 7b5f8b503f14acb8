package module

import (
	"slices"

	"gimlet/api"
)

// equality compares what == can't: items that have lists.
type equality struct{}

func (q equality) modules(a, b api.Module) bool {
	return slices.Equal(a.Types, b.Types) &&
		slices.Equal(a.Imports, b.Imports) &&
		slices.EqualFunc(a.Funcs, b.Funcs, q.funcs) &&
		slices.Equal(a.Tables, b.Tables) &&
		slices.Equal(a.Memories, b.Memories) &&
		slices.EqualFunc(a.Globals, b.Globals, q.globals) &&
		slices.Equal(a.Exports, b.Exports) &&
		a.Started == b.Started && a.Start == b.Start &&
		slices.EqualFunc(a.Elems, b.Elems, q.elems) &&
		slices.EqualFunc(a.Datas, b.Datas, q.datas)
}

func (q equality) funcs(a, b api.Func) bool {
	return a.Type == b.Type && a.Code.Locals == b.Code.Locals && q.lists(a.Code.L, b.Code.L)
}

func (q equality) globals(a, b api.Global) bool {
	return a.Mut == b.Mut && q.lists(a.Init, b.Init)
}

func (q equality) elems(a, b api.Elem) bool {
	return q.lists(a.Offset, b.Offset) && slices.Equal(a.Funcs, b.Funcs)
}

func (q equality) datas(a, b api.Data) bool {
	return q.lists(a.Offset, b.Offset) && slices.Equal(a.Bytes, b.Bytes)
}

func (q equality) lists(a, b []api.Instr) bool { return slices.EqualFunc(a, b, q.instrs) }

func (q equality) instrs(a, b api.Instr) bool {
	return a.Op == b.Op && a.Results == b.Results && a.A == b.A && a.B == b.B && a.N == b.N &&
		slices.Equal(a.Tags, b.Tags) && q.lists(a.L, b.L) && q.lists(a.E, b.E)
}
