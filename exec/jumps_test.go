package exec

import (
	"math"
	"slices"
	"testing"

	"gimlet/api"
)

// depths is lists in one another, each of which writes its number, from the outermost on, if a jump goes behind the one within it; the innermost is l.
func depths(n int, l ...api.Instr) []api.Instr {
	for k := range n {
		l = join(code(block(0, l...)), shown(uint32(k)))
	}
	return l
}

// Br: to the end of the list of that number from within, the innermost being 0; the function's own is the last one.
func TestBr(t *testing.T) {
	const all = "01234"
	for n := range 6 {
		wrote := all[min(n, 5):]
		writes(t, "br", doing(depths(5, br(uint32(n)), op(api.OpUnreachable))...), 5+1+2*len(wrote), wrote)
		// BrIf, where it is taken and where it is not; BrTable, by a tag and by A.
		for _, v := range conditions() {
			writes(t, "br_if", doing(depths(5, word(v), brIf(uint32(n)), op(api.OpUnreachable))...), 5+2+2*len(wrote), wrote)
		}
		writes(t, "br_if of 0", doing(depths(5, word(0), brIf(uint32(n)))...), 5+2+10, all)
		writes(t, "br_table", doing(depths(5, word(1), brTable(0, 0, uint32(n), 0), op(api.OpUnreachable))...), 5+2+2*len(wrote), wrote)
		writes(t, "br_table, the last one", doing(depths(5, word(1), brTable(uint32(n), 0), op(api.OpUnreachable))...), 5+2+2*len(wrote), wrote)
	}
}

// In an If, of either list: its own number is 0.
func TestBrInIf(t *testing.T) {
	for v := range uint32(2) {
		for n, want := range []string{"12", "2", ""} {
			l := code(br(uint32(n)), op(api.OpUnreachable))
			inner := join(code(word(v), either(0, l, l)), shown(1))
			writes(t, "br in an if", doing(join(code(block(0, inner...)), shown(2))...), 4+2*len(want), want)
		}
	}
}

// A jump takes along the words that the list returns; those below them, pushed within it, are removed; those that stood there ahead of it stay.
func TestBrWords(t *testing.T) {
	for below := range 5 {
		push := slices.Repeat(code(word(900)), below)
		within := func(jump ...api.Instr) []api.Instr { return join(push, code(word(5)), jump) }
		steps := below + 1
		returns(t, "out of a block", leaving(word(100), block(1, within(br(0))...), op(api.OpAdd)), steps+4, 105)
		returns(t, "out of two", leaving(word(100), block(1, word(800), block(1, within(br(1))...), op(api.OpUnreachable)), op(api.OpAdd)), steps+6, 105)
		returns(t, "out of an if", leaving(word(100), word(1), either(1, within(br(0)), code(word(0))), op(api.OpAdd)), steps+5, 105)
		returns(t, "out of else", leaving(word(100), word(0), either(1, code(word(0)), within(br(0))), op(api.OpAdd)), steps+5, 105)
		returns(t, "out of a loop", leaving(word(100), block(1, loop(0, within(br(1))...), word(1)), op(api.OpAdd)), steps+5, 105)
		returns(t, "out of the function", leaving(word(100), block(0, within(br(1))...), op(api.OpUnreachable)), steps+3, 5)
		returns(t, "by br_if", leaving(word(100), block(1, within(word(1), brIf(0), op(api.OpUnreachable))...), op(api.OpAdd)), steps+5, 105)
		returns(t, "by br_table", leaving(word(100), block(1, within(word(0), brTable(1, 0))...), op(api.OpAdd)), steps+5, 105)
		returns(t, "by br_table, the last one", leaving(word(100), block(1, within(word(7), brTable(0, 1))...), op(api.OpAdd)), steps+5, 105)
		// Of a list that returns nothing all that was pushed within it is removed.
		returns(t, "with nothing", leaving(word(100), block(0, join(push, code(br(0)))...)), below+3, 100)
		returns(t, "with nothing, out of two", leaving(word(100), block(0, word(1), block(0, join(push, code(br(1)))...), op(api.OpUnreachable))), below+5, 100)
		returns(t, "not taken", leaving(word(100), block(1, word(5), word(0), brIf(0), word(1), op(api.OpAdd)), op(api.OpAdd)), 8, 106)
	}
}

// A jump to a Loop goes to its beginning, takes nothing along, and removes all words that were pushed within it, though the Loop returns one.
func TestBrLoop(t *testing.T) {
	for results := range 2 {
		// Three rounds, with words left at each; the last one ends by itself.
		end := slices.Repeat(code(word(50)), results)
		l := join(
			code(get(0), word(1), op(api.OpAdd), with(api.OpTee, 0), word(3), op(api.OpLtU)),
			code(either(0, code(word(7), word(8), br(1)), nil)), end)
		drop := slices.Repeat(code(op(api.OpAdd)), results)
		m := leaving(join(code(word(100), loop(results, l...)), drop, code(get(0), op(api.OpAdd)))...)
		returns(t, "rounds", m, 2+10+10+7+2*results+2, 100+uint32(results)*50+3)
	}
	// Of two loops in one another the inner one is begun anew for 1, the outer one for 2, and both are left for 3.
	m := doing(block(0, loop(0, join(shown(0), code(loop(0, join(shown(1), code(
		block(0, word(9), get(0), get(0), word(1), op(api.OpAdd), set(0), brTable(0, 1, 1, 2, 1, 2, 3))))...)))...)))
	writes(t, "two loops", m, 2+3*3+6*(2+1+7), "011101101")
}

// A Loop's beginning is all of its list, each time, also where it was left in between.
func TestLoopAgain(t *testing.T) {
	// The outer one runs twice, the inner one three times each.
	inner := join(
		shown(1),
		code(get(0), word(1), op(api.OpAdd), with(api.OpTee, 0), word(3), op(api.OpNe), brIf(0)))
	outer := join(
		shown(2), code(word(0), set(0), loop(0, inner...)), shown(3),
		code(get(1), op(api.OpEqz), word(1), set(1), brIf(0)), shown(4))
	writes(t, "loops", doing(loop(0, outer...)), 1+2*(2+2+1+3*9+2+5)+2, "21113211134")
	// A Loop that is entered anew, not jumped to.
	m := doing(loop(0, join(code(loop(0, shown(5)...)), code(get(0), op(api.OpEqz), word(1), set(0), brIf(0)))...))
	writes(t, "entered anew", m, 1+2*(1+2+5), "55")
	// For ever, as many steps as are asked for.
	x := must(t, doing(loop(0, br(0))), "")
	callAs(t, x, "f", nil, api.OK)
	stepAs(t, x, 1, 1)
	stepAs(t, x, 100001, 100001)
	outcomeAs(t, "for ever", x, api.Outcome{How: api.Going, Steps: 100002})
	callAs(t, x, "f", nil, api.ErrState)
}

// BrTable: the tag of the word's number, from 0 on; A for any other.
func TestBrTable(t *testing.T) {
	for _, tags := range [][]uint32{nil, {3}, {3, 1}, {0, 1, 2, 3}, {4, 4, 1}} {
		for _, v := range edges() {
			label := 2
			if int(v) < len(tags) {
				label = int(tags[v])
			}
			wrote := "0123"[label:]
			if label == 4 {
				wrote = ""
			}
			writes(t, "a table", doing(depths(4, word(v), brTable(2, tags...), op(api.OpUnreachable))...), 4+2+2*len(wrote), wrote)
		}
	}
	many := make([]uint32, api.MaxItems)
	many[len(many)-1] = 1
	for _, c := range []struct {
		v    uint32
		want string
	}{{0, "0123"}, {api.MaxItems - 2, "0123"}, {api.MaxItems - 1, "123"}, {api.MaxItems, "3"}, {math.MaxUint32, "3"}} {
		writes(t, "many tags", doing(depths(4, word(c.v), brTable(3, many...))...), 6+2*len(c.want), c.want)
	}
}

// Return: the call's end, from any depth, with the words that it returns; nothing else is left.
func TestReturn(t *testing.T) {
	for below := range 4 {
		push := slices.Repeat(code(word(900)), below)
		for deep := range 4 {
			l := join(push, code(word(5), op(api.OpReturn)))
			for k := range deep {
				l = join(push, code([]api.Instr{block(1, l...), loop(1, l...)}[k%2]), code(op(api.OpUnreachable)))
			}
			steps := (deep+1)*below + deep + 2
			returns(t, "return", leaving(l...), steps, 5)
			// In a call: the caller goes on, with its own words.
			m := add(leaving(word(100), calling(theF+1), op(api.OpSub)), typeGet, 2, l...)
			returns(t, "return from a call", m, steps+3, 95)
			none := add(leaving(word(100), calling(theF+1)), typeNone, 2, join(push, code(block(0, join(push, code(op(api.OpReturn)))...), op(api.OpUnreachable)))...)
			returns(t, "return of nothing", none, 2*below+4, 100)
		}
	}
}

// The label of the function's own list: the call's end, as Return.
func TestBrOwnList(t *testing.T) {
	for _, jump := range [][]api.Instr{{br(0)}, {word(1), brIf(0)}, {word(0), brTable(0)}, {op(api.OpReturn)}} {
		l := join(code(word(6), word(5)), jump)
		if jump[len(jump)-1].Op == api.OpBrIf {
			l = append(l, op(api.OpUnreachable))
		}
		returns(t, "alone", leaving(l...), 2+len(jump), 5)
		returns(t, "called", add(leaving(word(100), calling(theF+1), op(api.OpSub)), typeGet, 1, l...), 5+len(jump), 95)
		returns(t, "called twice", add(leaving(calling(theF+1), calling(theF+1), op(api.OpSub)), typeGet, 1, l...), 2*(2+len(jump))+3, 0)
	}
}

// Lists end without a step, many at once, with those of calls too.
func TestEndsAtOnce(t *testing.T) {
	m := doing(block(0, loop(0, word(1), either(0, code(block(0, calling(theF+1))), nil))))
	m = add(m, typeNone, 0, block(0, calling(theF+2)))
	m = add(m, typeNone, 0, loop(0, op(api.OpNop)))
	x := must(t, m, "")
	callAs(t, x, "f", nil, api.OK)
	stepAs(t, x, 9, 9)
	outcomeAs(t, "ahead of the last step", x, api.Outcome{How: api.Going, Steps: 9})
	stepAs(t, x, 1, 1)
	outcomeAs(t, "the last step", x, api.Outcome{How: api.Done, Steps: 10})
}
