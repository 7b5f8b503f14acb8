package valid

import (
	"math"
	"slices"
	"testing"

	"gimlet/api"
)

// join puts lists one behind the other.
func join(all ...[]api.Instr) []api.Instr { return slices.Concat(all...) }

// What ends a list: nothing behind it in that list lacks words, but the list around it is as it was.
func TestRowUnreachable(t *testing.T) {
	dead := op(api.OpUnreachable)
	tryAll(t, "unreachable", []try{
		{0, list(dead), api.OK, 0}, {1, list(dead), api.OK, 0}, {1, list(dead, op(api.OpAdd)), api.OK, 0}, {0, list(dead, op(api.OpSelect), op(api.OpDrop)), api.OK, 0},
		{1, list(dead, word(1)), api.OK, 0}, {0, list(dead, word(1)), api.ErrLeft, 0}, {1, list(dead, word(1), word(2)), api.ErrLeft, 0},
		{0, list(word(1), word(2), dead), api.OK, 0}, {1, list(word(1), word(2), dead, op(api.OpDrop)), api.OK, 0}, {0, list(word(1), dead, word(2), op(api.OpAdd)), api.ErrLeft, 0},
		// In a list: that one is dead, and no other.
		{0, list(block(0, dead)), api.OK, 0}, {0, list(block(1, dead), op(api.OpDrop)), api.OK, 0}, {1, list(block(0, dead)), api.ErrUnder, 0}, {1, list(block(1, dead)), api.OK, 0},
		{0, list(block(1, dead), op(api.OpAdd)), api.ErrUnder, 3}, {0, list(block(0, dead, op(api.OpSelect), op(api.OpDrop)), op(api.OpDrop)), api.ErrUnder, 5},
		{0, list(word(1), block(0, dead, op(api.OpDrop), op(api.OpDrop)), op(api.OpDrop)), api.OK, 0}, {0, list(loop(0, dead, op(api.OpDrop)), op(api.OpDrop)), api.ErrUnder, 4},
		// A list within what is dead is not dead.
		{0, list(dead, block(0, op(api.OpDrop))), api.ErrUnder, 3}, {0, list(dead, block(1)), api.ErrUnder, 2}, {0, list(dead, loop(0, word(1))), api.ErrLeft, 2}, {0, list(dead, either(0, drops(1), nil)), api.ErrUnder, 3},
		{0, list(dead, block(1, word(1)), op(api.OpAdd), op(api.OpDrop)), api.OK, 0}, {0, list(dead, block(0), op(api.OpDrop)), api.OK, 0},
		// What is dead stays so.
		{0, join(list(dead), drops(40)), api.OK, 0}, {1, list(dead, op(api.OpNop), op(api.OpAdd)), api.OK, 0}, {0, list(dead, dead, op(api.OpDrop)), api.OK, 0},
	})
}

func TestRowNop(t *testing.T) {
	tryAll(t, "nop", []try{
		{0, nops(1), api.OK, 0}, {0, nops(9), api.OK, 0}, {1, nops(1), api.ErrUnder, 0}, {1, list(op(api.OpNop), word(1), op(api.OpNop)), api.OK, 0}, {0, list(op(api.OpNop), word(1), op(api.OpNop)), api.ErrLeft, 0},
		{0, list(op(api.OpNop), op(api.OpDrop)), api.ErrUnder, 2},
	})
}

// returned is what is wanted of a list that has n words at its end, and returns so many.
func returned(n, returns int) api.Errno {
	switch {
	case n < returns:
		return api.ErrUnder
	case n > returns:
		return api.ErrLeft
	}
	return api.OK
}

// Lists of each kind, with too few words at their ends, just as many, and too many: the instruction that has the list is told.
func TestRowLists(t *testing.T) {
	for returns := range 2 {
		for n := range 5 {
			want, at := returned(n, returns), 1
			if want == api.OK {
				at = 0
			}
			behind := drops(returns)
			for _, in := range []api.Instr{block(returns, words(n)...), loop(returns, words(n)...)} {
				holds(t, "a list", fn(0, join(list(in), behind)...), want, at)
				holds(t, "a list on two words", fn(0, join(list(word(1), word(1), in), behind, drops(2))...), want, 3*at)
				holds(t, "a list in a list", fn(0, loop(0, join(list(in), behind)...)), want, 2*at)
			}
			holds(t, "a function", fn(returns, words(n)...), want, 0)
			for k := range 5 {
				other, at := returned(k, returns), 2
				if want != api.OK {
					other = want
				} else if other == api.OK {
					at = 0
				}
				in := either(returns, words(n), words(k))
				holds(t, "an if", fn(0, join(list(word(1), in), behind)...), other, at)
				holds(t, "an if on a word", fn(0, join(list(word(1), word(1), in), behind, drops(1))...), other, at+at/2)
			}
		}
	}
}

// A list does not reach the words of those around it.
func TestRowWithin(t *testing.T) {
	tryAll(t, "a list's own words", []try{
		{0, list(word(1), block(0, op(api.OpDrop))), api.ErrUnder, 3}, {0, list(word(1), loop(0, op(api.OpDrop))), api.ErrUnder, 3},
		{0, list(word(1), word(1), either(0, drops(1), nil)), api.ErrUnder, 4}, {0, list(word(1), word(1), either(0, nil, drops(1))), api.ErrUnder, 4},
		{0, list(word(1), word(1), block(1, word(1), op(api.OpAdd))), api.ErrUnder, 5}, {0, list(word(1), block(0), op(api.OpDrop)), api.OK, 0},
		{0, list(block(1, word(1)), block(1, word(1)), op(api.OpAdd), op(api.OpDrop)), api.OK, 0}, {0, list(block(1, block(1, loop(1, word(1)))), op(api.OpDrop)), api.OK, 0},
		{0, list(word(1), block(1)), api.ErrUnder, 2}, {0, list(block(0, block(1, word(1)))), api.ErrLeft, 1}, {0, list(block(1, block(0, word(1)))), api.ErrLeft, 2},
	})
}

func TestRowIf(t *testing.T) {
	dead := list(op(api.OpUnreachable))
	tryAll(t, "if", []try{
		{0, list(either(0, nil, nil)), api.ErrUnder, 1}, {0, list(either(1, words(1), words(1))), api.ErrUnder, 1}, {0, list(word(1), either(0, nil, nil)), api.OK, 0}, {0, list(word(1), either(0, nil, nil), op(api.OpDrop)), api.ErrUnder, 3},
		{0, list(word(1), block(0, either(0, nil, nil))), api.ErrUnder, 3},
		// Of one word, without a second list, or with one that is empty, but not nil.
		{1, list(word(1), either(1, words(1), nil)), api.ErrUnder, 2}, {1, list(word(1), either(1, words(1), []api.Instr{})), api.ErrUnder, 2}, {1, list(word(1), either(1, nil, words(1))), api.ErrUnder, 2},
		{1, list(word(1), either(1, words(1), words(1))), api.OK, 0}, {1, list(word(1), either(1, nil, nil)), api.ErrUnder, 2},
		// Each of its lists begins where the other one did.
		{0, list(word(1), either(0, words(1), drops(1))), api.ErrLeft, 2}, {1, list(word(1), either(1, words(1), list(op(api.OpEqz)))), api.ErrUnder, 4},
		{1, list(word(1), either(1, dead, nil)), api.ErrUnder, 2}, {1, list(word(1), either(1, dead, dead)), api.OK, 0}, {1, list(word(1), either(1, words(1), dead)), api.OK, 0}, {1, list(word(1), either(1, dead, words(1))), api.OK, 0},
		{0, list(word(1), either(0, dead, drops(1))), api.ErrUnder, 4}, {0, list(word(1), either(0, drops(1), dead)), api.ErrUnder, 3}, {0, list(word(1), either(0, dead, dead), op(api.OpDrop)), api.ErrUnder, 5},
		{0, list(op(api.OpUnreachable), either(0, nil, nil), op(api.OpDrop)), api.OK, 0}, {0, list(op(api.OpUnreachable), either(1, words(1), nil)), api.ErrUnder, 2},
		// What it returns is on top of what was there, once.
		{1, list(word(1), word(1), either(1, words(1), words(1)), op(api.OpAdd)), api.OK, 0}, {1, list(word(1), either(1, words(1), words(1)), op(api.OpAdd)), api.ErrUnder, 5},
		{0, list(word(1), either(1, words(1), words(1))), api.ErrLeft, 0},
		// Its lists are labels, too: with as many words as it returns.
		{1, list(word(1), either(1, list(word(1), with(api.OpBr, 0)), list(word(1), with(api.OpBr, 0)))), api.OK, 0}, {1, list(word(1), either(1, list(with(api.OpBr, 0)), words(1))), api.ErrUnder, 3}, {1, list(word(1), either(1, words(1), list(with(api.OpBr, 0)))), api.ErrUnder, 4},
	})
}

// around puts a list into four others, of each kind, of which each returns what a label of its own asks for: from within an else, an if, a loop, a block.
func around(l []api.Instr) []api.Instr {
	inner := either(0, list(op(api.OpUnreachable)), l)
	middle := loop(1, word(1), either(1, list(word(1), inner, op(api.OpUnreachable)), words(1)))
	return list(block(1, middle, op(api.OpDrop), word(1)), op(api.OpDrop))
}

// jumps are the labels within around, in a function: how many words each takes, of which the last one is the function's.
func jumps(results int) []int { return []int{0, 1, 0, 1, results} }

// aroundAt is the number of the first instruction that around is given.
const aroundAt = 8

// Labels of each kind of list, and one beyond the function's own.
func TestRowBr(t *testing.T) {
	for results := range 2 {
		end := words(results)
		for label, k := range jumps(results) {
			for n := range 4 {
				want, at := api.OK, 0
				if n < k {
					want, at = api.ErrUnder, aroundAt+n
				}
				l := join(around(join(words(n), list(with(api.OpBr, uint32(label))), drops(3))), end)
				holds(t, "br", fn(results, l...), want, at)
			}
		}
		for _, beyond := range []uint32{5, 6, 1000, 1 << 31, 1<<31 + 4, math.MaxUint32} {
			for n := range 3 {
				l := join(around(join(words(n), list(with(api.OpBr, beyond)))), end)
				holds(t, "br beyond", fn(results, l...), api.ErrMissing, aroundAt+n)
			}
		}
	}
	tryAll(t, "br", []try{
		{0, list(with(api.OpBr, 0)), api.OK, 0}, {0, list(with(api.OpBr, 1)), api.ErrMissing, 1}, {1, list(with(api.OpBr, 0)), api.ErrUnder, 1}, {1, list(with(api.OpBr, 1)), api.ErrMissing, 1}, {1, list(word(1), with(api.OpBr, 0)), api.OK, 0},
		{0, list(block(0, with(api.OpBr, 2))), api.ErrMissing, 2}, {0, list(block(0, with(api.OpBr, 1))), api.OK, 0}, {0, list(block(0), with(api.OpBr, 1)), api.ErrMissing, 2},
		{0, list(block(1, with(api.OpBr, 0)), op(api.OpDrop)), api.ErrUnder, 2}, {0, list(loop(1, with(api.OpBr, 0)), op(api.OpDrop)), api.OK, 0},
		// What is left behind a jump is dead; the words that it does not take are left alone.
		{1, list(word(1), word(2), word(3), with(api.OpBr, 0)), api.OK, 0}, {1, list(word(1), with(api.OpBr, 0), op(api.OpAdd), op(api.OpDrop)), api.OK, 0}, {0, list(with(api.OpBr, 0), word(1)), api.ErrLeft, 0},
		{1, list(block(0, word(1), with(api.OpBr, 1)), op(api.OpDrop)), api.ErrUnder, 4},
		// In what is dead, a jump finds its words, but its label has to exist.
		{1, list(op(api.OpUnreachable), with(api.OpBr, 0)), api.OK, 0}, {1, list(op(api.OpUnreachable), with(api.OpBr, 1)), api.ErrMissing, 2},
	})
}

func TestRowBrIf(t *testing.T) {
	for results := range 2 {
		end := words(results)
		for label, k := range jumps(results) {
			for n := range 4 {
				want, at := api.OK, 0
				if n < k+1 {
					want, at = api.ErrUnder, aroundAt+n
				}
				// It takes one word for good, and those of the label only if it jumps.
				l := join(around(join(words(n), list(with(api.OpBrIf, uint32(label))), drops(max(0, n-1)))), end)
				holds(t, "br_if", fn(results, l...), want, at)
				if n > k {
					l = join(around(join(words(n), list(with(api.OpBrIf, uint32(label))), drops(n))), end)
					holds(t, "br_if, and a word too few", fn(results, l...), api.ErrUnder, aroundAt+2*n)
				}
			}
		}
		for _, beyond := range []uint32{5, 6, 1000, 1 << 31, math.MaxUint32} {
			for n := range 3 {
				l := join(around(join(words(n), list(with(api.OpBrIf, beyond)))), end)
				holds(t, "br_if beyond", fn(results, l...), api.ErrMissing, aroundAt+n)
			}
		}
	}
	brIf := with(api.OpBrIf, 0)
	tryAll(t, "br_if", []try{
		{0, list(brIf), api.ErrUnder, 1}, {0, list(with(api.OpBrIf, 1)), api.ErrMissing, 1}, {0, list(word(1), brIf), api.OK, 0}, {1, list(word(1), brIf), api.ErrUnder, 2}, {1, list(word(1), word(1), brIf), api.OK, 0},
		{0, list(word(1), brIf, op(api.OpDrop)), api.ErrUnder, 3}, {1, list(word(1), word(1), brIf, op(api.OpDrop)), api.ErrUnder, 0},
		// In what is dead it leaves the words of its label, as if they had been there.
		{1, list(op(api.OpUnreachable), brIf), api.OK, 0}, {1, list(op(api.OpUnreachable), brIf, word(1)), api.ErrLeft, 0}, {0, list(op(api.OpUnreachable), brIf, word(1)), api.ErrLeft, 0}, {1, list(op(api.OpUnreachable), brIf, op(api.OpDrop), word(1)), api.OK, 0},
		{1, list(op(api.OpUnreachable), with(api.OpBrIf, 1)), api.ErrMissing, 2},
	})
}

func TestRowBrTable(t *testing.T) {
	const none, one, far = 0, 1, 5 // of the labels within around, one that takes no word, one that takes one, one that is not there
	rows := []struct {
		i    api.Instr
		k    int
		want api.Errno
	}{
		{brTable(none), 0, api.OK}, {brTable(one), 1, api.OK}, {brTable(2), 0, api.OK}, {brTable(3), 1, api.OK},
		{brTable(none, none), 0, api.OK}, {brTable(none, 2, none, 2), 0, api.OK}, {brTable(one, 3), 1, api.OK}, {brTable(3, one, one, 3), 1, api.OK}, {brTable(one, slices.Repeat([]uint32{3}, 16384)...), 1, api.OK},
		{brTable(far), 0, api.ErrMissing}, {brTable(math.MaxUint32), 0, api.ErrMissing}, {brTable(none, far), 0, api.ErrMissing}, {brTable(none, far, none), 0, api.ErrMissing}, {brTable(none, none, none, 1<<31), 0, api.ErrMissing},
		{brTable(none, one), 0, api.ErrArity}, {brTable(one, none), 1, api.ErrArity}, {brTable(none, one, none), 0, api.ErrArity}, {brTable(none, none, one), 0, api.ErrArity}, {brTable(3, one, 2, one), 1, api.ErrArity}, {brTable(one, none, none), 1, api.ErrArity},
		{brTable(one, append(slices.Repeat([]uint32{3}, 16383), 2)...), 1, api.ErrArity},
		// A label that is not there comes ahead of those that take other numbers of words, wherever they stand.
		{brTable(none, one, far), 0, api.ErrMissing}, {brTable(none, far, one), 0, api.ErrMissing}, {brTable(far, none, one), 0, api.ErrMissing}, {brTable(far, one, none), 0, api.ErrMissing}, {brTable(one, none, none, far), 1, api.ErrMissing},
		{brTable(one, append(slices.Repeat([]uint32{0}, 16383), far)...), 1, api.ErrMissing},
	}
	for _, c := range rows {
		for n := range 4 {
			want, at := c.want, aroundAt+n
			switch {
			case want == api.OK && n < c.k+1:
				want = api.ErrUnder
			case want == api.OK:
				at = 0
			}
			holds(t, "br_table", fn(0, around(join(words(n), list(c.i), drops(3)))...), want, at)
		}
		want, at := c.want, aroundAt+1
		if want == api.OK {
			at = 0
		}
		holds(t, "br_table in what is dead", fn(0, around(list(op(api.OpUnreachable), c.i, op(api.OpSelect), op(api.OpDrop)))...), want, at)
	}
	tryAll(t, "br_table", []try{
		{0, list(brTable(0)), api.ErrUnder, 1}, {0, list(brTable(1)), api.ErrMissing, 1}, {0, list(word(1), brTable(0)), api.OK, 0}, {1, list(word(1), brTable(0)), api.ErrUnder, 2}, {1, list(word(1), word(1), brTable(0, 0, 0)), api.OK, 0},
		{0, list(word(1), brTable(0), word(1)), api.ErrLeft, 0}, {1, list(loop(0, word(1), brTable(1, 0))), api.ErrArity, 3}, {0, list(loop(1, word(1), brTable(1, 0)), op(api.OpDrop)), api.OK, 0}, {0, list(block(1, word(1), brTable(1, 0))), api.ErrArity, 3},
	})
}

func TestRowReturn(t *testing.T) {
	end := op(api.OpReturn)
	tryAll(t, "return", []try{
		{0, list(end), api.OK, 0}, {1, list(end), api.ErrUnder, 1}, {1, list(word(1), end), api.OK, 0}, {0, list(word(1), word(2), end), api.OK, 0}, {1, list(word(1), word(2), end), api.OK, 0},
		{0, list(end, op(api.OpSelect), op(api.OpDrop)), api.OK, 0}, {0, list(end, word(1)), api.ErrLeft, 0}, {1, list(word(1), end, end), api.OK, 0},
		// Within lists it takes what the function returns, from the innermost list's words alone.
		{1, list(block(0, word(1), end), word(1)), api.OK, 0}, {1, list(block(0, word(1), end)), api.ErrUnder, 0}, {1, list(word(1), block(0, end)), api.ErrUnder, 3}, {1, list(block(1, end)), api.ErrUnder, 2}, {1, list(loop(1, word(1), end)), api.OK, 0},
		{0, list(block(1, end), op(api.OpDrop)), api.OK, 0}, {0, list(word(1), loop(0, end), op(api.OpDrop)), api.OK, 0}, {1, list(word(1), either(1, list(word(1), end), list(end))), api.ErrUnder, 5}, {1, list(word(1), either(1, list(word(1), end), list(word(1), end))), api.OK, 0},
		{1, list(block(0, block(0, loop(0, word(1), end))), word(1)), api.OK, 0}, {1, list(block(0, loop(0, end)), word(1)), api.ErrUnder, 3},
	})
}

// eachShape calls f for each operation with a shape, in the module rich.
func eachShape(f func(i api.Instr, takes, leaves int)) {
	for o, s := range shapeTable {
		i := op(o)
		if o == api.OpSetGlobal {
			i.A = 1
		}
		f(i, s[0], s[1])
	}
}

// Every operation with a shape: with just as many words as it takes, with more, and with fewer.
func TestRowShapes(t *testing.T) {
	eachShape(func(i api.Instr, takes, leaves int) {
		for n := range takes {
			holds(t, "too few", fn(0, append(words(n), i)...), api.ErrUnder, n+1)
			holds(t, "too few, in a list", fn(0, word(1), block(0, append(words(n), i)...), op(api.OpDrop)), api.ErrUnder, n+3)
		}
		for n := takes; n < 5; n++ {
			l := append(words(n), i)
			then := n - takes + leaves
			holds(t, "enough", fn(0, append(l, drops(then)...)...), api.OK, 0)
			holds(t, "enough, and one taken too many", fn(0, append(l, drops(then+1)...)...), api.ErrUnder, n+then+2)
			holds(t, "enough, in a list", fn(0, word(1), block(0, append(l, drops(then)...)...), op(api.OpDrop)), api.OK, 0)
			holds(t, "enough, and one left", fn(0, append(l, words(1)...)...), api.ErrLeft, 0)
		}
	})
}

// The same, in what is dead: words that were not there are taken, but those that it leaves are there.
func TestRowShapesDead(t *testing.T) {
	eachShape(func(i api.Instr, takes, leaves int) {
		for n := range 5 {
			l := join(list(op(api.OpUnreachable)), words(n), list(i))
			then := max(0, n-takes) + leaves
			holds(t, "in what is dead", fn(0, append(l, drops(then)...)...), api.OK, 0)
			holds(t, "in what is dead, and more taken", fn(0, append(l, drops(then+7)...)...), api.OK, 0)
			holds(t, "in what is dead, and one left", fn(0, join(l, drops(then), words(1))...), api.ErrLeft, 0)
			if then > 0 {
				holds(t, "in what is dead, with what is left", fn(0, append(l, drops(then-1)...)...), api.ErrLeft, 0)
			}
		}
	})
}
