package valid

import (
	"slices"
	"testing"

	"gimlet/api"
)

// bare is a module of one function, which takes no words.
func bare(results int, l ...api.Instr) api.Module {
	return api.Module{Types: []api.FuncType{{Results: results}}, Funcs: []api.Func{{Code: api.Code{L: l}}}}
}

// nested puts a list into n lists in one another, of each kind in turn.
func nested(n int, l []api.Instr) []api.Instr {
	for k := range n {
		switch k % 4 {
		case 0:
			l = list(block(0, l...))
		case 1:
			l = list(loop(0, l...))
		case 2:
			l = list(word(1), either(0, l, nil))
		case 3:
			l = list(word(1), either(0, nil, l))
		}
	}
	return l
}

// As many words as a function's instructions can leave, and lists in one another, up to the bounds that module.Check keeps; beyond them its error.
func TestLimitsOfCode(t *testing.T) {
	many := words(api.MaxCode)
	holds(t, "a height of 2^18", bare(1, many...), api.ErrLeft, 0)
	many[api.MaxCode-1] = op(api.OpReturn)
	holds(t, "a height of 2^18 - 1, returned from", bare(1, many...), api.OK, 0)
	holds(t, "the same, of no words", bare(0, many...), api.OK, 0)
	many[api.MaxCode-1] = with(api.OpGet, 0)
	holds(t, "the last of 2^18", bare(0, many...), api.ErrMissing, api.MaxCode)
	half := join(words(api.MaxCode/2), drops(api.MaxCode/2))
	holds(t, "a height of 2^17, and back", bare(0, half...), api.OK, 0)
	half[0] = op(api.OpNop)
	holds(t, "a word too few at the last", bare(0, half...), api.ErrUnder, api.MaxCode)
	if e, at := Body(bare(1, words(api.MaxCode+1)...), 0); e != api.ErrMany || at != 0 {
		t.Errorf("more than 2^18: %v, %d", e, at)
	}
	for _, n := range []int{898, 899} {
		holds(t, "nested", bare(0, nested(n, nops(1))...), api.OK, 0)
		holds(t, "a jump out of all", bare(0, nested(n, list(with(api.OpBr, uint32(n))))...), api.OK, 0)
		l := nested(n, list(with(api.OpBr, uint32(n+1))))
		holds(t, "a jump beyond all", bare(0, l...), api.ErrMissing, len(places(l)))
		l = nested(n, words(1))
		holds(t, "a word left in all", bare(0, l...), api.ErrLeft, len(places(l))-1)
	}
	// The 900th has an empty list.
	holds(t, "nested 900 deep", bare(0, nested(900, nil)...), api.OK, 0)
	for _, l := range [][]api.Instr{nested(900, nops(1)), nested(901, nil), nested(1000, nil), nested(1<<15, nil)} {
		if e, at := Body(bare(0, l...), 0); e != api.ErrMany || at != 0 {
			t.Errorf("nested too deep: %v, %d", e, at)
		}
		if w := Check(bare(0, l...)); w != (api.Wrong{Err: api.ErrMany}) {
			t.Errorf("nested too deep: %+v", w)
		}
	}
}

// onHeight returns a checker that stands at a height, in a function of no words.
func onHeight(height int) *checker {
	m := rich()
	return &checker{m: m, locals: 5, stand: api.Stand{Height: height, Frames: []api.Frame{{}}}}
}

// The heights that a stand may have are greater than what the instructions of a well-formed module can leave: so the checker is put there.
func TestLimitsOfHeights(t *testing.T) {
	const top = 1 << 30
	pushes := []api.Instr{word(1), with(api.OpGet, 0), with(api.OpGetGlobal, 0), op(api.OpSize), with(api.OpCall, 1)}
	for _, i := range pushes {
		for _, c := range []struct {
			height int
			l      []api.Instr
			want   api.Errno
			at     int
		}{
			{top - 1, list(i, op(api.OpUnreachable)), api.OK, 0}, {top, list(i), api.ErrFull, 1}, {top - 1, list(i, i), api.ErrFull, 2}, {top - 2, list(i, i, op(api.OpUnreachable)), api.OK, 0}, {top - 2, list(i, i, i), api.ErrFull, 3},
			{top, list(op(api.OpDrop), i, op(api.OpUnreachable)), api.OK, 0}, {top, list(op(api.OpDrop), i, i), api.ErrFull, 3},
			{top, list(block(0, i)), api.ErrFull, 2}, {top - 1, list(block(1, i), op(api.OpUnreachable)), api.OK, 0}, {top - 1, list(block(1, i), i), api.ErrFull, 3}, {top - 1, list(op(api.OpDrop), block(1, block(1, i)), op(api.OpUnreachable)), api.OK, 0},
			{top, list(either(1, list(i), list(i)), op(api.OpUnreachable)), api.OK, 0}, {top, list(either(1, list(i), list(i)), i), api.ErrFull, 4}, {top, list(either(1, list(i, i), list(i))), api.ErrFull, 3}, {top, list(either(1, list(i), list(i, i))), api.ErrFull, 4},
			{top, list(op(api.OpAdd), op(api.OpTee), i, i), api.ErrFull, 4}, {top, list(op(api.OpUnreachable), i), api.ErrLeft, 0},
		} {
			k := onHeight(c.height)
			k.list(c.l)
			if k.err != c.want || k.at != c.at {
				t.Errorf("%v on %d: %v, %d; want %v, %d", c.l, c.height, k.err, k.at, c.want, c.at)
			}
		}
	}
}

// Nor can its lists be nested in one another as deep as a stand has frames.
func TestLimitsOfFrames(t *testing.T) {
	for _, n := range []int{900, 998, 999} {
		k := onHeight(0)
		k.list(nested(n, nil))
		if k.err != api.OK || k.at != 0 {
			t.Errorf("%d frames: %v, %d", n+1, k.err, k.at)
		}
	}
	for _, inner := range []api.Instr{block(0), loop(1), either(0, nil, nil)} {
		k := onHeight(0)
		l := nested(999, list(word(1), inner))
		k.list(l)
		if k.err != api.ErrFull || k.at != len(places(l)) {
			t.Errorf("1,001 frames: %v, %d; want %d", k.err, k.at, len(places(l)))
		}
	}
	// What follows is not looked at any more.
	k := onHeight(0)
	k.list(nested(1003, list(with(api.OpGet, 9))))
	if k.err != api.ErrFull {
		t.Errorf("1,004 frames: %v", k.err)
	}
}

// As many items as each list may have, the last one of them wrong.
func TestLimitsOfItems(t *testing.T) {
	m := bare(0)
	m.Globals = slices.Repeat([]api.Global{{Init: words(1)}}, api.MaxItems)
	m.Funcs = slices.Repeat(m.Funcs, api.MaxItems)
	m.Imports = slices.Repeat([]api.Import{{}}, api.MaxItems)
	m.Tables, m.Memories = make([]api.Limits, 1), make([]api.Limits, 1)
	functions := make([]uint32, api.MaxItems)
	for k := range functions {
		functions[k] = uint32(2*api.MaxItems - 1 - k)
	}
	m.Elems = slices.Repeat([]api.Elem{{Offset: words(1)}}, api.MaxItems)
	m.Elems[0].Funcs, m.Elems[api.MaxItems-1].Funcs = functions, functions
	m.Datas = slices.Repeat([]api.Data{{Offset: words(1)}}, api.MaxItems)
	m.Exports = make([]api.Export, api.MaxItems)
	for k := range m.Exports {
		m.Exports[k] = api.Export{Name: longName(k), Kind: api.KindGlobal, Index: uint32(k)}
	}
	checks(t, "full", m, api.Wrong{})
	last := api.MaxItems - 1
	for _, c := range []struct {
		do   func(*api.Module)
		want api.Wrong
	}{
		{func(m *api.Module) { m.Imports[last].Type = 1 }, api.Wrong{Err: api.ErrMissing, Section: 2, Item: last}},
		{func(m *api.Module) { m.Funcs[last].Type = 1 }, api.Wrong{Err: api.ErrMissing, Section: 3, Item: last}},
		{func(m *api.Module) { m.Globals[last].Init = nil }, api.Wrong{Err: api.ErrConst, Section: 6, Item: last}},
		{func(m *api.Module) { m.Exports[last].Index++ }, api.Wrong{Err: api.ErrMissing, Section: 7, Item: last}},
		{func(m *api.Module) { m.Exports[last].Name = longName(0) }, api.Wrong{Err: api.ErrThere, Section: 7, Item: last}},
		{func(m *api.Module) { m.Exports[last].Name = longName(last - 1) }, api.Wrong{Err: api.ErrThere, Section: 7, Item: last}},
		{func(m *api.Module) { m.Started, m.Start = true, 2*api.MaxItems-1 }, api.Wrong{}},
		{func(m *api.Module) { m.Started, m.Start = true, 2*api.MaxItems }, api.Wrong{Err: api.ErrMissing, Section: 8}},
		{func(m *api.Module) { m.Elems[last].Funcs[last] = 2 * api.MaxItems }, api.Wrong{Err: api.ErrMissing, Section: 9, Item: last}},
		{func(m *api.Module) { m.Funcs[last].Code.L = words(1) }, api.Wrong{Err: api.ErrLeft, Section: 10, Item: last}},
		{func(m *api.Module) { m.Datas[last].Offset = nil }, api.Wrong{Err: api.ErrConst, Section: 11, Item: last}},
	} {
		other := cloned(m)
		c.do(&other)
		checks(t, "full, and the last otherwise", other, c.want)
	}
}

// longName is a name of 1,000 bytes, of which those of other numbers differ only at the end.
func longName(k int) string {
	b := slices.Repeat([]byte("a"), 1000)
	for at := 999; k > 0; at-- {
		b[at] = byte('b' + k%16)
		k /= 16
	}
	return string(b)
}
