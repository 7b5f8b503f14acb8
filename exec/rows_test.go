package exec

import (
	"math"
	"testing"

	"gimlet/api"
	"gimlet/num"
)

// edges are words at which operations, and conditions, may differ.
func edges() []uint32 {
	return []uint32{0, 1, 2, 31, 32, 33, 255, 256, 65535, 65536, 1<<31 - 1, 1 << 31, 1<<31 + 1, 1<<32 - 7, math.MaxUint32 - 1, math.MaxUint32}
}

// conditions are words that are not 0.
func conditions() []uint32 { return edges()[1:] }

// Unreachable, as the first step, behind others, and in lists.
func TestUnreachable(t *testing.T) {
	falls(t, "alone", doing(op(api.OpUnreachable)), 1, api.ErrUnreachable)
	falls(t, "behind others", doing(op(api.OpNop), op(api.OpUnreachable), op(api.OpNop)), 2, api.ErrUnreachable)
	falls(t, "in lists", doing(block(0, loop(0, op(api.OpUnreachable)))), 3, api.ErrUnreachable)
	returns(t, "jumped over", leaving(block(1, word(4), br(0), op(api.OpUnreachable))), 3, 4)
}

func TestNopDrop(t *testing.T) {
	returns(t, "nop", leaving(op(api.OpNop), word(5), op(api.OpNop)), 3, 5)
	returns(t, "drop", leaving(word(5), word(6), op(api.OpDrop)), 3, 5)
	returns(t, "drop twice", leaving(word(5), word(6), word(7), op(api.OpDrop), op(api.OpDrop)), 5, 5)
	returns(t, "drop between", leaving(word(5), word(6), op(api.OpDrop), word(7), op(api.OpAdd)), 5, 12)
}

// Const: N, as a word.
func TestConst(t *testing.T) {
	for _, v := range edges() {
		returns(t, "a number", leaving(word(v)), 1, v)
	}
}

// Select: the lowest word if the upper one is not 0, whatever else that is; otherwise the second one.
func TestSelect(t *testing.T) {
	returns(t, "0", leaving(word(10), word(20), word(0), op(api.OpSelect)), 4, 20)
	for _, v := range conditions() {
		returns(t, "not 0", leaving(word(10), word(20), word(v), op(api.OpSelect)), 4, 10)
	}
	returns(t, "three words are taken", leaving(word(3), word(10), word(20), word(1), op(api.OpSelect), op(api.OpSub)), 6, 1<<32-7)
	returns(t, "one word is left", leaving(word(3), word(10), word(20), word(0), op(api.OpSelect), op(api.OpSub)), 6, 1<<32-17)
}

// If: its list L for any word but 0; E for 0. A list that has no instructions is at its end at once.
func TestIf(t *testing.T) {
	both := func(v uint32) api.Module { return leaving(word(v), either(1, code(word(1)), code(word(2)))) }
	returns(t, "0", both(0), 3, 2)
	for _, v := range conditions() {
		returns(t, "not 0", both(v), 3, 1)
	}
	for v, want := range []string{"0: 13", "1: 123"} {
		l := join(code(word(uint32(v)), either(0, shown(2), nil)), shown(3))
		writes(t, want, doing(join(shown(1), l)...), 4+2+2*v, want[3:])
		l = join(code(word(1-uint32(v)), either(0, nil, shown(2))), shown(3))
		writes(t, want, doing(join(shown(1), l)...), 4+2+2*v, want[3:])
	}
	returns(t, "on words", leaving(word(40), word(1), either(1, code(word(2)), code(word(3))), op(api.OpAdd)), 5, 42)
	returns(t, "in one another", leaving(word(1), either(1, code(word(0), either(1, code(word(1)), code(word(2)))), code(word(3)))), 5, 2)
	falls(t, "unreachable in E", leaving(word(0), either(1, code(word(1)), code(op(api.OpUnreachable)))), 3, api.ErrUnreachable)
}

// Block and Loop: their lists, once, if nothing jumps.
func TestLists(t *testing.T) {
	for _, make := range []func(int, ...api.Instr) api.Instr{block, loop} {
		returns(t, "a word", leaving(make(1, word(5))), 2, 5)
		returns(t, "on words", leaving(word(7), make(1, word(5)), op(api.OpSub)), 4, 2)
		returns(t, "none", leaving(word(7), make(0)), 2, 7)
		returns(t, "none, in several", leaving(word(7), make(0, make(0, make(0)))), 4, 7)
		returns(t, "in one another", leaving(make(1, word(1), make(1, word(2), make(1, word(3)), op(api.OpAdd)), op(api.OpAdd))), 8, 6)
		writes(t, "in order", doing(join(shown(1), code(make(0, join(shown(2), code(make(0, shown(3)...)), shown(4))...)), shown(5))...), 12, "12345")
	}
}

// Get, Set, Tee: of what the function takes, and of its own words, which are 0 at first.
func TestLocals(t *testing.T) {
	for n, want := range []uint32{10, 20, 0, 0, 0} {
		returns(t, "get", module(typeTwo, 3, get(uint32(n))), 1, want, 10, 20)
	}
	for n := range uint32(5) {
		for k, want := range []uint32{10, 20, 0, 0, 0} {
			if k == int(n) {
				want = 77
			}
			returns(t, "set", module(typeTwo, 3, word(77), set(n), get(uint32(k))), 3, want, 10, 20)
			returns(t, "tee", module(typeTwo, 3, word(77), with(api.OpTee, n), op(api.OpDrop), get(uint32(k))), 4, want, 10, 20)
		}
		returns(t, "tee leaves", module(typeTwo, 3, word(1), word(77), with(api.OpTee, n), op(api.OpAdd)), 4, 78, 10, 20)
		returns(t, "set takes", module(typeTwo, 3, word(1), word(77), set(n)), 3, 1, 10, 20)
	}
	returns(t, "what was got stays", module(typeBoth, 0, get(0), word(9), set(0)), 3, 5, 5)
	returns(t, "twice", module(typeBoth, 0, get(0), get(0), op(api.OpMul)), 3, 25, 5)
}

// The same for globals, those that may be set; they last, and are the place's own.
func TestGlobals(t *testing.T) {
	for n, want := range []uint32{7, 8, 1 << 31} {
		returns(t, "get", leaving(with(api.OpGetGlobal, uint32(n))), 1, want)
	}
	for _, n := range []uint32{0, 2} {
		p := placed(t, leaving(with(api.OpGetGlobal, n), word(3), with(api.OpSetGlobal, n)))
		x := on(t, p, "")
		for k, want := range []uint32{[]uint32{7, 0, 1 << 31}[n], 3, 3} {
			callAs(t, x, "f", nil, api.OK)
			stepAs(t, x, 2, 2)
			if v, _ := p.Global(n); v != want {
				t.Errorf("the global %d is %d; want %d", n, v, want)
			}
			stepAs(t, x, 2, 1)
			outcomeAs(t, "set", x, api.Outcome{How: api.Done, Results: []uint32{want}, Steps: 3 * (k + 1)})
			if v, _ := p.Global(n); v != 3 {
				t.Errorf("the global %d is %d; want 3", n, v)
			}
		}
		if v, _ := p.Global(1); v != 8 {
			t.Errorf("the global 1 is %d", v)
		}
		// What is set from outside is got.
		p.SetGlobal(n, 99)
		callAs(t, x, "f", nil, api.OK)
		stepAs(t, x, 9, 3)
		outcomeAs(t, "set from outside", x, api.Outcome{How: api.Done, Results: []uint32{99}, Steps: 12})
	}
}

// Each operation of num, at pairs of edges: its words in order, its result, its traps.
func TestNum(t *testing.T) {
	for o := api.OpEqz; o <= api.OpRotr; o++ {
		for _, a := range edges() {
			switch num.Arity(o) {
			case 1:
				want, _ := num.One(o, a)
				returns(t, "one", module(typeBoth, 0, word(1000), get(0), op(o), op(api.OpAdd)), 4, 1000+want, a)
			case 2:
				for _, b := range edges() {
					l := code(word(1000), get(0), get(1), op(o), op(api.OpAdd))
					if want, e := num.Two(o, a, b); e == api.OK {
						returns(t, "two", module(typeTwo, 0, l...), 5, 1000+want, a, b)
					} else {
						falls(t, "two", module(typeTwo, 0, l...), 4, e, a, b)
					}
				}
			}
		}
	}
}

// The traps of num by name, and what is not one.
func TestNumTraps(t *testing.T) {
	for _, o := range []int{api.OpDivS, api.OpDivU, api.OpRemS, api.OpRemU} {
		for _, a := range edges() {
			falls(t, "by 0", leaving(word(a), word(0), op(o)), 3, api.ErrNought)
		}
	}
	falls(t, "a quotient of 2^31", leaving(word(1<<31), word(math.MaxUint32), op(api.OpDivS)), 3, api.ErrOver)
	returns(t, "its remainder", leaving(word(1<<31), word(math.MaxUint32), op(api.OpRemS)), 3, 0)
	returns(t, "unsigned", leaving(word(1<<31), word(math.MaxUint32), op(api.OpDivU)), 3, 0)
}
