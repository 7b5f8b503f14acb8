package place

import (
	"gimlet/api"
	"gimlet/memory"
	"gimlet/module"
	"gimlet/valid"
)

// hostFunction is one that the host has.
type hostFunction struct {
	number int
	shape  api.FuncType
}

// hostFunctions returns what the host has, by module and name.
func hostFunctions() map[[2]string]hostFunction {
	return map[[2]string]hostFunction{
		{"host", "getc"}: {api.HostGet, api.FuncType{Results: 1}},
		{"host", "putc"}: {api.HostPut, api.FuncType{Params: 1}},
	}
}

// hostsOf returns which function of the host each import of a valid module is, and whether the host has them all.
func hostsOf(m api.Module) ([]int, bool) {
	known := hostFunctions()
	hosts := make([]int, len(m.Imports))
	for k, i := range m.Imports {
		f, is := known[[2]string{i.Module, i.Name}]
		if shape, _ := module.TypeOf(m, uint32(k)); !is || shape != f.shape {
			return nil, false
		}
		hosts[k] = f.number
	}
	return hosts, true
}

// globalsOf returns the words that the globals of a valid module have at first.
func globalsOf(m api.Module) []uint32 {
	globals := make([]uint32, len(m.Globals))
	for k, g := range m.Globals {
		globals[k], _ = valid.Const(g.Init)
	}
	return globals
}

// tableOf returns the table of a valid module, whose entries point to the numbers in its elements.
func tableOf(m api.Module) ([]*uint32, api.Errno) {
	if len(m.Tables) == 0 {
		return nil, api.OK
	}
	table := make([]*uint32, m.Tables[0].Min)
	for _, l := range m.Elems {
		at, _ := valid.Const(l.Offset)
		// The sum may be above 2^32: it is no entry then, and must not become a lower one.
		if uint64(at)+uint64(len(l.Funcs)) > uint64(len(table)) {
			return nil, api.ErrBounds
		}
		for k := range l.Funcs {
			table[int(at)+k] = &l.Funcs[k]
		}
	}
	return table, api.OK
}

// memoryOf returns the memory of a valid module, with its data; nil if it has none.
func memoryOf(m api.Module) (*memory.Memory, api.Errno) {
	if len(m.Memories) == 0 {
		return nil, api.OK
	}
	mem, _ := memory.New(m.Memories[0])
	for _, d := range m.Datas {
		at, _ := valid.Const(d.Offset)
		if e := mem.Write(at, d.Bytes); e != api.OK {
			return nil, e
		}
	}
	return mem, api.OK
}
