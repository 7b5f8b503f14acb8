package valid

import (
	"testing"

	"gimlet/api"
)

// The chapter's numbers: the first instruction of a list, then those of its lists (L, then E), then the next one.
func TestNumbersNested(t *testing.T) {
	bad := with(api.OpGet, 9)
	tryAll(t, "numbers", []try{
		{0, list(bad), api.ErrMissing, 1}, {0, list(op(api.OpNop), bad), api.ErrMissing, 2}, {0, list(block(0), bad), api.ErrMissing, 2}, {0, list(block(0, bad)), api.ErrMissing, 2}, {0, list(block(0, op(api.OpNop)), bad), api.ErrMissing, 3},
		{0, list(block(0, block(0, op(api.OpNop)), op(api.OpNop)), loop(0, loop(0, bad))), api.ErrMissing, 7},
		{0, list(word(1), either(0, list(bad), nil)), api.ErrMissing, 3}, {0, list(word(1), either(0, nil, list(bad))), api.ErrMissing, 3}, {0, list(word(1), either(0, nops(3), list(bad))), api.ErrMissing, 6}, {0, list(word(1), either(0, nops(3), list(op(api.OpNop), bad))), api.ErrMissing, 7},
		{0, list(word(1), either(0, nops(3), nops(4)), bad), api.ErrMissing, 10}, {0, list(word(1), either(0, list(word(1), either(0, nops(1), nops(1))), list(word(1), either(0, nops(1), list(bad)))), op(api.OpNop)), api.ErrMissing, 10},
		// The first one is told, whatever comes later.
		{0, list(bad, with(api.OpCall, 9), word(1)), api.ErrMissing, 1}, {0, list(block(1, bad), with(api.OpSetGlobal, 0)), api.ErrMissing, 2}, {0, list(op(api.OpDrop), bad), api.ErrUnder, 1}, {0, list(with(api.OpSetGlobal, 0), bad), api.ErrMut, 1},
		// An instruction ahead of those in its lists; these ahead of the end of their list; E behind L's end.
		{0, list(either(0, list(bad), list(bad))), api.ErrUnder, 1}, {0, list(block(1, bad)), api.ErrMissing, 2}, {0, list(word(1), either(1, list(bad), nil)), api.ErrMissing, 3}, {0, list(word(1), either(1, nil, list(bad))), api.ErrUnder, 2}, {0, list(word(1), either(0, words(1), list(bad))), api.ErrLeft, 2},
		{0, list(word(1), either(1, words(1), list(bad))), api.ErrMissing, 4}, {0, list(block(0, word(1), block(1), bad)), api.ErrUnder, 3},
	})
}

// For the end of a list the instruction whose list it is is told; for a function's 0.
func TestNumbersOfEnds(t *testing.T) {
	tryAll(t, "ends", []try{
		{1, nil, api.ErrUnder, 0}, {0, words(1), api.ErrLeft, 0}, {1, join(nops(5), words(2)), api.ErrLeft, 0}, {1, list(block(0, nops(4)...)), api.ErrUnder, 0},
		{0, list(block(0, nops(3)...), block(1)), api.ErrUnder, 5}, {0, list(block(0, block(1), op(api.OpDrop))), api.ErrUnder, 2}, {0, list(block(0, nops(2)...), loop(0, loop(0, nops(2)...), word(1))), api.ErrLeft, 4},
		{0, list(block(0, block(0, block(0, block(0), word(1))))), api.ErrLeft, 3}, {0, list(block(0, block(0, block(0, block(0))), word(1))), api.ErrLeft, 1}, {0, list(block(0, block(0, block(0, block(0, word(1)))))), api.ErrLeft, 4},
		{0, list(word(1), either(1, join(nops(3), words(1)), nops(3))), api.ErrUnder, 2}, {0, list(word(1), either(0, nops(3), list(word(1), either(0, nops(2), words(1))))), api.ErrLeft, 7}, {0, list(word(1), either(0, list(word(1), either(0, nops(2), words(1))), nil)), api.ErrLeft, 4},
		{0, list(word(1), either(0, list(loop(0)), list(loop(0))), block(1)), api.ErrUnder, 5},
	})
}

// owner is a list in a function, and the number of the instruction whose list it is.
type owner struct {
	l  *[]api.Instr
	at int
}

// owners returns all lists of a function; its own has the number 0.
func owners(l *[]api.Instr) []owner {
	all := []owner{{l, 0}}
	for k, i := range places(*l) {
		if i.Op == api.OpIf {
			all = append(all, owner{&i.L, k + 1}, owner{&i.E, k + 1})
		} else if i.Op == api.OpBlock || i.Op == api.OpLoop {
			all = append(all, owner{&i.L, k + 1})
		}
	}
	return all
}

// Each instruction of functions that are valid, made one that is not: its number is told. Each of their lists with two words too many at its end: its owner's is.
func TestNumbersEverywhere(t *testing.T) {
	d := dice(2)
	for range 300 {
		m := made(&d)
		for n := range m.Funcs {
			for k := range places(m.Funcs[n].Code.L) {
				for _, bad := range []api.Instr{with(api.OpGet, 1000), with(api.OpBr, 1000), block(0, with(api.OpCall, 1000))} {
					other := cloned(m)
					*places(other.Funcs[n].Code.L)[k] = bad
					if e, at := Body(other, n); e != api.ErrMissing || at != k+1+len(bad.L) {
						t.Fatalf("the instruction %d made %v: %v, %d", k+1, bad, e, at)
					}
				}
			}
			for k := range owners(&m.Funcs[n].Code.L) {
				other := cloned(m)
				o := owners(&other.Funcs[n].Code.L)[k]
				*o.l = append(*o.l, words(2)...)
				if e, at := Body(other, n); e != api.ErrLeft || at != o.at {
					t.Fatalf("two words too many in a list of %d: %v, %d", o.at, e, at)
				}
			}
		}
	}
}
