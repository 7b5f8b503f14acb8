package valid

import (
	"slices"

	"gimlet/api"
	"gimlet/module"
)

// The numbers of sections in which something may be wrong.
const (
	numImports = 2
	numFuncs   = 3
	numGlobals = 6
	numExports = 7
	numStart   = 8
	numElems   = 9
	numCodes   = 10
	numDatas   = 11
)

// section is one of a module: its number, how many items it has, and what returns the error of one, and of which of its instructions that is.
type section struct {
	number, items int
	wrong         func(item int) (api.Errno, int)
}

// sections returns those of a well-formed module, in the order in which they are checked.
func sections(m api.Module) []section {
	names := firstNames(m.Exports)
	starts := 0
	if m.Started {
		starts = 1
	}
	return []section{
		{numImports, len(m.Imports), func(k int) (api.Errno, int) { return typeError(m, m.Imports[k].Type), 0 }},
		{numFuncs, len(m.Funcs), func(k int) (api.Errno, int) { return typeError(m, m.Funcs[k].Type), 0 }},
		{numGlobals, len(m.Globals), func(k int) (api.Errno, int) { return constError(m.Globals[k].Init), 0 }},
		{numExports, len(m.Exports), func(k int) (api.Errno, int) { return exportError(m, k, names), 0 }},
		{numStart, starts, func(int) (api.Errno, int) { return startError(m), 0 }},
		{numElems, len(m.Elems), func(k int) (api.Errno, int) { return elemError(m, m.Elems[k]), 0 }},
		{numCodes, len(m.Funcs), func(k int) (api.Errno, int) { return bodyError(m, k) }},
		{numDatas, len(m.Datas), func(k int) (api.Errno, int) { return dataError(m, m.Datas[k]), 0 }},
	}
}

func typeError(m api.Module, n int) api.Errno {
	if n >= len(m.Types) {
		return api.ErrMissing
	}
	return api.OK
}

func constError(l []api.Instr) api.Errno {
	_, e := Const(l)
	return e
}

// firstNames returns which export is the first one with each name.
func firstNames(exports []api.Export) map[string]int {
	first := map[string]int{}
	for k, e := range slices.Backward(exports) {
		first[e.Name] = k
	}
	return first
}

// exportError returns the error of the export k, where first are those of firstNames.
func exportError(m api.Module, k int, first map[string]int) api.Errno {
	e := m.Exports[k]
	switch {
	case !has(count(m, e.Kind), e.Index):
		return api.ErrMissing
	case first[e.Name] < k:
		return api.ErrThere
	}
	return api.OK
}

// count returns how many items of a kind a module has.
func count(m api.Module, kind int) int {
	switch kind {
	case api.KindFunc:
		return len(m.Imports) + len(m.Funcs)
	case api.KindTable:
		return len(m.Tables)
	case api.KindMemory:
		return len(m.Memories)
	case api.KindGlobal:
		return len(m.Globals)
	}
	return 0
}

func startError(m api.Module) api.Errno {
	t, is := module.TypeOf(m, m.Start)
	switch {
	case !is:
		return api.ErrMissing
	case t != api.FuncType{}:
		return api.ErrShape
	}
	return api.OK
}

func elemError(m api.Module, e api.Elem) api.Errno {
	if len(m.Tables) == 0 {
		return api.ErrMissing
	}
	if err := constError(e.Offset); err != api.OK {
		return err
	}
	functions := count(m, api.KindFunc)
	if slices.ContainsFunc(e.Funcs, func(n uint32) bool { return !has(functions, n) }) {
		return api.ErrMissing
	}
	return api.OK
}

func dataError(m api.Module, d api.Data) api.Errno {
	if len(m.Memories) == 0 {
		return api.ErrMissing
	}
	return constError(d.Offset)
}
