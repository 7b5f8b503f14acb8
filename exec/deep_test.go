package exec

import (
	"testing"

	"gimlet/api"
)

const most = 5000

// nests is a module whose f calls itself until its word is 1, and does a list then: as many calls last as its word says.
func nests(l ...api.Instr) api.Module {
	return module(typePut, 0, get(0), word(1), op(api.OpNe), either(0, code(get(0), word(1), op(api.OpSub), calling(theF)), l))
}

// How many steps a call of nests needs in all, without those of its list.
func nestSteps(n int) int { return 4*n + 4*(n-1) }

// 5,000 nested calls are done, and end; the 5,001st is not: it is Deep, in that call's step.
func TestDeep(t *testing.T) {
	for _, n := range []int{1, 2, 100, most - 1, most} {
		_, o := ran(t, nests(), "", uint32(n))
		if !same(o, api.Outcome{How: api.Done, Steps: nestSteps(n)}) {
			t.Errorf("%d calls: %+v", n, o)
		}
	}
	for _, n := range []uint32{most + 1, most + 2, 2 * most, 0, 1 << 31} {
		x := must(t, nests(), "")
		callAs(t, x, "f", []uint32{n}, api.OK)
		stepAs(t, x, 8*most-1, 8*most-1)
		outcomeAs(t, "5,000 calls", x, api.Outcome{How: api.Going, Steps: 8*most - 1})
		stepAs(t, x, 2, 1)
		outcomeAs(t, "one more", x, api.Outcome{How: api.Deep, Steps: 8 * most})
		stepAs(t, x, 100, 0)
	}
}

// Within 5,000 nested calls one more is one too many, of whatever function of the place, and however it is called; what comes ahead of the call comes first.
func TestDeepLast(t *testing.T) {
	for _, c := range []struct {
		what  string
		l     []api.Instr
		steps int
		how   int
		trap  api.Errno
	}{
		{"a call", code(calling(theF + 1)), 1, api.Deep, api.OK},
		{"of nothing", code(calling(theF + 2)), 1, api.Deep, api.OK},
		{"of an entry", code(word(4), with(api.OpIndirect, typeNone)), 2, api.Deep, api.OK},
		{"of an entry, of nothing", code(word(5), with(api.OpIndirect, typeNone)), 2, api.Deep, api.OK},
		{"no entry", code(word(6), with(api.OpIndirect, typeNone)), 2, api.Fallen, api.ErrEntry},
		{"no function", code(word(0), with(api.OpIndirect, typeNone)), 2, api.Fallen, api.ErrEntry},
		{"another type", code(word(4), with(api.OpIndirect, typeGet), op(api.OpDrop)), 2, api.Fallen, api.ErrMatch},
		{"no call", code(op(api.OpNop)), 1, api.Done, api.OK},
		{"a trap", code(op(api.OpUnreachable)), 1, api.Fallen, api.ErrUnreachable},
		// A call of a function of the host is done with its step: it does not last.
		{"getc", code(calling(theGetc), op(api.OpDrop)), 2, api.Done, api.OK},
		{"putc by an entry", code(word('A'), word(3), with(api.OpIndirect, typePut)), 3, api.Done, api.OK},
	} {
		for _, below := range []int{0, 1} {
			m := add(nests(c.l...), typeNone, 0, op(api.OpNop))
			m = add(m, typeNone, 0)
			m.Elems = append(m.Elems, api.Elem{Offset: code(word(4)), Funcs: []uint32{theF + 1, theF + 2}})
			n := most - below
			x, o := ran(t, m, "", uint32(n))
			want := api.Outcome{How: c.how, Trap: c.trap, Steps: nestSteps(n) + c.steps}
			if c.how == api.Deep && below == 1 {
				// There is room for it.
				want.How = api.Done
				if c.what == "a call" || c.what == "of an entry" {
					want.Steps++
				}
			}
			want.Out = o.Out
			if !same(o, want) {
				t.Errorf("%s, within %d: %+v; want %+v", c.what, n, o, want)
			}
			if want.How == api.Done || want.How == api.Fallen {
				continue
			}
			// It may be called anew: no call lasts any more.
			callAs(t, x, "f", []uint32{3}, api.OK)
			x.Step(plenty)
			if o := x.Outcome(); o.How != api.Done {
				t.Errorf("%s, called anew: %+v", c.what, o)
			}
		}
	}
}

// Calls that have ended do not count, however many there were: nor do the lists that are open.
func TestDeepEnded(t *testing.T) {
	m := doing(
		word(3*most), set(0),
		loop(0, calling(theF+1), calling(theF+2), get(0), word(1), op(api.OpSub), with(api.OpTee, 0), brIf(0)))
	m = add(m, typeNone, 0, block(0, word(1), op(api.OpReturn)), op(api.OpUnreachable))
	m = add(m, typeNone, 0)
	if _, o := ran(t, m, ""); !same(o, api.Outcome{How: api.Done, Steps: 3 + 3*most*10}) {
		t.Errorf("one after the other: %+v", o)
	}
	l := code(calling(theF))
	for range 20 {
		l = code(block(0, loop(0, l...)))
	}
	x, o := ran(t, doing(l...), "")
	if !same(o, api.Outcome{How: api.Deep, Steps: 41 * most}) {
		t.Errorf("in lists: %+v", o)
	}
	callAs(t, x, "getc", nil, api.OK)
	outcomeAs(t, "then getc", x, api.Outcome{How: api.Done, Results: []uint32{1<<32 - 1}, Steps: 41 * most})
}

// The start counts in the same way; so do functions that return words, and words of their own.
func TestDeepWords(t *testing.T) {
	m := module(typeBoth, 9, get(0), set(9), word(1000), get(0), either(1, code(get(0), word(1), op(api.OpSub), calling(theF)), code(word(1))), get(9), op(api.OpAdd), op(api.OpSub))
	want := uint32(1)
	for n := range uint32(most) {
		want = 1000 - (want + n)
	}
	returns(t, "words", m, (most-1)*12+9, want, most-1)
	m = doing(calling(theF))
	m.Started, m.Start = true, theF
	x := must(t, m, "")
	startAs(t, x, api.OK)
	stepAs(t, x, plenty, most)
	outcomeAs(t, "the start", x, api.Outcome{How: api.Deep, Steps: most})
}
