package module

import (
	"slices"

	"gimlet/api"
)

// mapped returns a new list of what f makes of each item.
func mapped[T any](l []T, f func(T) T) []T {
	out := slices.Clone(l)
	for k, item := range out {
		out[k] = f(item)
	}
	return out
}

func copyFunc(f api.Func) api.Func {
	f.Code.L = copyList(f.Code.L)
	return f
}

func copyGlobal(g api.Global) api.Global {
	g.Init = copyList(g.Init)
	return g
}

func copyElem(e api.Elem) api.Elem {
	e.Offset = copyList(e.Offset)
	e.Funcs = slices.Clone(e.Funcs)
	return e
}

func copyData(d api.Data) api.Data {
	d.Offset = copyList(d.Offset)
	d.Bytes = slices.Clone(d.Bytes)
	return d
}

func copyList(l []api.Instr) []api.Instr { return mapped(l, copyInstr) }

func copyInstr(i api.Instr) api.Instr {
	i.Tags = slices.Clone(i.Tags)
	i.L = copyList(i.L)
	i.E = copyList(i.E)
	return i
}
