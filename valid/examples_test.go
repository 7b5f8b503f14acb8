package valid

import (
	"testing"

	"gimlet/api"
)

// The chapter's examples: functions that take a word, and return one.
func TestExamples(t *testing.T) {
	get := with(api.OpGet, 0)
	for _, c := range []struct {
		l    []api.Instr
		want api.Errno
		at   int
	}{
		{list(get), api.OK, 0},
		{list(with(api.OpGet, 1)), api.ErrMissing, 1},
		{nil, api.ErrUnder, 0},
		{list(get, get), api.ErrLeft, 0},
		{list(block(1, op(api.OpNop)), op(api.OpDrop), get), api.ErrUnder, 1},
		{list(op(api.OpUnreachable), op(api.OpAdd)), api.OK, 0},
		{list(get, either(1, words(1), nil)), api.ErrUnder, 2},
		{list(block(0, word(1), brTable(1, 0))), api.ErrArity, 3},
	} {
		m := api.Module{Types: []api.FuncType{{Params: 1, Results: 1}}, Funcs: []api.Func{{Code: api.Code{L: c.l}}}}
		holds(t, "an example", m, c.want, c.at)
	}
}

// Functions that do something, with something of each kind.
func TestExampleFunctions(t *testing.T) {
	// The sum of the numbers up to its word (the document's ninth example).
	sum := list(
		block(0, loop(0,
			with(api.OpGet, 0), op(api.OpEqz), with(api.OpBrIf, 1),
			with(api.OpGet, 1), with(api.OpGet, 0), op(api.OpAdd), with(api.OpSet, 1),
			with(api.OpGet, 0), word(1), op(api.OpSub), with(api.OpSet, 0),
			with(api.OpBr, 0),
		)),
		with(api.OpGet, 1),
	)
	m := api.Module{Types: []api.FuncType{{Params: 1, Results: 1}}, Funcs: []api.Func{{Code: api.Code{Locals: 1, L: sum}}}}
	holds(t, "a sum", m, api.OK, 0)
	m.Funcs[0].Code.Locals = 0
	holds(t, "a sum without its word", m, api.ErrMissing, 6)

	factorial := list(with(api.OpGet, 0), either(1, list(with(api.OpGet, 0), with(api.OpGet, 0), word(1), op(api.OpSub), with(api.OpCall, 0), op(api.OpMul)), words(1)))
	m = api.Module{Types: []api.FuncType{{Params: 1, Results: 1}}, Funcs: []api.Func{{Code: api.Code{L: factorial}}}}
	holds(t, "a product", m, api.OK, 0)
	m.Types[0].Results = 0
	holds(t, "a product that is not returned", m, api.ErrUnder, 8)

	// A switch: blocks in one another.
	cases := list(block(0, block(0, block(0, with(api.OpGet, 0), brTable(2, 0, 1)), word(10), op(api.OpReturn)), word(20), op(api.OpReturn)), word(30))
	m = api.Module{Types: []api.FuncType{{Params: 1, Results: 1}}, Funcs: []api.Func{{Code: api.Code{L: cases}}}}
	holds(t, "a switch", m, api.OK, 0)
	cases[0].L[0].L[0].L[1].A = 3
	holds(t, "a switch with a label of the function", m, api.ErrArity, 5)
	cases[0].L[0].L[0].L[1].A = 4
	holds(t, "a switch with a label beyond", m, api.ErrMissing, 5)
}
