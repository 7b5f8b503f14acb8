package exec

import (
	"slices"
	"testing"

	"gimlet/api"
)

// As many lists in one another as there may be: a jump to each of them, and an end of all of them at once.
func TestMostLists(t *testing.T) {
	const deepest = api.MaxLists - 1
	nest := func(l ...api.Instr) []api.Instr {
		for range deepest {
			l = code(block(0, l...))
		}
		return l
	}
	for _, n := range []uint32{0, 1, 450, deepest - 1, deepest} {
		writes(t, "out of many", doing(nest(br(n))...), deepest+1, "")
	}
	writes(t, "the end of many", doing(nest(op(api.OpNop))...), deepest+1, "")
	l := code(word(5))
	for k := range deepest {
		l = code(word(uint32(k)), loop(1, l...), op(api.OpAdd))
	}
	returns(t, "words in each", leaving(l...), 3*deepest+1, deepest*(deepest-1)/2+5)
}

// As many local words as there may be, the first and the last; each call has its own.
func TestMostLocals(t *testing.T) {
	last := uint32(api.MaxLocals)
	m := module(typeBoth, api.MaxLocals,
		get(last), word(3), set(last), get(0), set(1), get(0),
		either(1, code(get(0), word(1), op(api.OpSub), calling(theF)), code(word(0))),
		op(api.OpAdd), get(last), op(api.OpAdd), get(1), op(api.OpAdd))
	returns(t, "many", m, 13+10*16, 3*11+55, 10)
}

// Many words, pushed by many instructions, and taken again.
func TestManyWords(t *testing.T) {
	const n = 100000
	l := slices.Repeat(code(word(2)), n)
	l = append(l, slices.Repeat(code(op(api.OpAdd)), n-1)...)
	returns(t, "many", leaving(l...), 2*n-1, 2*n)
	returns(t, "many that are removed", leaving(word(9), block(0, join(slices.Repeat(code(word(2)), n), code(br(0)))...)), n+3, 9)
}

// A long run, in pieces of many lengths.
func TestLongRun(t *testing.T) {
	x := must(t, sum(), "")
	callAs(t, x, "f", []uint32{100000}, api.OK)
	done := 0
	for n := 0; x.Outcome().How == api.Going; n++ {
		k, e := x.Step(n % 5000)
		if e != api.OK {
			t.Fatal(e)
		}
		done += k
	}
	outcomeAs(t, "long", x, api.Outcome{How: api.Done, Results: []uint32{100000 * 100001 / 2 % (1 << 32)}, Steps: 100000*12 + 6})
	if done != 100000*12+6 {
		t.Error(done)
	}
}
