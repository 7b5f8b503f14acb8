package module

import (
	"math"
	"slices"

	"gimlet/api"
	"gimlet/instr"
	"gimlet/kind"
	"gimlet/name"
)

const (
	maxTables   = 1
	maxMemories = 1
	maxName     = 1000 // bytes of a name in a module
	maxType     = math.MaxInt32
)

func errIf(wrong bool, e api.Errno) api.Errno {
	if wrong {
		return e
	}
	return api.OK
}

// crowded returns whether a list has too many items, apart from those of instructions.
func crowded(m api.Module) bool {
	longest := max(len(m.Types), len(m.Imports), len(m.Funcs), len(m.Globals), len(m.Exports), len(m.Elems), len(m.Datas))
	for _, e := range m.Elems {
		longest = max(longest, len(e.Funcs))
	}
	return longest > api.MaxItems || len(m.Tables) > maxTables || len(m.Memories) > maxMemories
}

// codeError returns what instr.Check returns of the lists of instructions: ErrMany ahead of ErrArg.
func codeError(m api.Module) api.Errno {
	worst := api.OK
	for l := range codes(m) {
		switch e := instr.Check(l); e {
		case api.OK:
		case api.ErrMany:
			return e
		default:
			worst = e
		}
	}
	return worst
}

// anyName returns whether one of the names is such.
func anyName(m api.Module, such func(string) bool) bool {
	return slices.ContainsFunc(m.Imports, func(i api.Import) bool { return such(i.Module) || such(i.Name) }) ||
		slices.ContainsFunc(m.Exports, func(e api.Export) bool { return such(e.Name) })
}

func isLong(s string) bool { return len(s) > maxName }

func isNoText(s string) bool { return name.Bad([]byte(s)) >= 0 }

// heavy returns whether the data have too many bytes together.
func heavy(datas []api.Data) bool {
	left := api.MaxBytes
	for _, d := range datas {
		// The sum of all lengths could be more than an int holds.
		if len(d.Bytes) > left {
			return true
		}
		left -= len(d.Bytes)
	}
	return false
}

func wrongType(t api.FuncType) bool { return kind.Check(t) != api.OK }

func wrongNumber(n int) bool { return n < 0 || n > maxType }

func wrongImport(i api.Import) bool { return wrongNumber(i.Type) }

func wrongFunc(f api.Func) bool {
	return wrongNumber(f.Type) || f.Code.Locals < 0 || f.Code.Locals > api.MaxLocals
}

func wrongExport(e api.Export) bool { return e.Kind < api.KindFunc || e.Kind > api.KindGlobal }

func anyBeyond(l []api.Limits, most uint32) bool {
	return slices.ContainsFunc(l, func(x api.Limits) bool { return kind.CheckLimits(x, most) != api.OK })
}
