package valid

import (
	"slices"
	"testing"

	"gimlet/api"
)

// without returns the list without its item k.
func without[T any](l []T, k int) []T { return slices.Delete(slices.Clone(l), k, k+1) }

// P11.3: valid modules are valid without any one of their exports, data, or elements, and with a function more that nobody calls.
func TestLeftOut(t *testing.T) {
	d := dice(3)
	all := []api.Module{several()}
	for range 500 {
		all = append(all, made(&d))
	}
	parts := 0
	for _, m := range all {
		checks(t, "whole", m, api.Wrong{})
		for k := range m.Exports {
			less := m
			less.Exports = without(m.Exports, k)
			checks(t, "without an export", less, api.Wrong{})
			parts++
		}
		for k := range m.Elems {
			less := m
			less.Elems = without(m.Elems, k)
			checks(t, "without an element", less, api.Wrong{})
			parts++
		}
		for k := range m.Datas {
			less := m
			less.Datas = without(m.Datas, k)
			checks(t, "without data", less, api.Wrong{})
			parts++
		}
		for kind, x := range m.Types {
			more := m
			more.Funcs = append(slices.Clone(m.Funcs), api.Func{Type: kind, Code: api.Code{L: words(x.Results)}})
			checks(t, "with a function more", more, api.Wrong{})
		}
		m.Started, m.Start = false, 0
		checks(t, "without its start", m, api.Wrong{})
	}
	if parts < 500 {
		t.Errorf("only %d parts", parts)
	}
}

// inFunc returns the module with another list for a function.
func inFunc(m api.Module, n int, l []api.Instr) api.Module {
	m.Funcs = slices.Clone(m.Funcs)
	m.Funcs[n].Code.L = l
	return m
}

// fits tells if a function of a module, with another list, is not valid.
func fits(t *testing.T, what string, m api.Module, n int, l []api.Instr) {
	t.Helper()
	if e, at := Body(inFunc(m, n, l), n); e != api.OK || at != 0 {
		t.Fatalf("%s: Body = %v, %d", what, e, at)
	}
}

// P11.3: a valid list takes nothing, and leaves what it returns: so it can stand on other words, and as a list within others.
func TestTakesNothing(t *testing.T) {
	d := dice(4)
	for range 500 {
		m := made(&d)
		for n, f := range m.Funcs {
			l, returns := f.Code.L, m.Types[f.Type].Results
			fits(t, "in a block", m, n, list(block(returns, l...)))
			fits(t, "in a block, on three words", m, n, join(words(3), list(block(returns, l...), op(api.OpReturn))))
			fits(t, "in an if", m, n, list(word(1), either(returns, l, l)))
			fits(t, "in an if, and dead", m, n, list(word(1), either(returns, l, list(op(api.OpUnreachable)))))
			fits(t, "twice", m, n, join(list(block(returns, l...)), drops(returns), l))
			if returns == 0 {
				fits(t, "on words that stay", m, n, list(word(1), word(2), block(0, l...), op(api.OpAdd), op(api.OpDrop)))
			}
			// What stands ahead of it leaves nothing either.
			fits(t, "behind nops", m, n, join(nops(3), l))
			fits(t, "what cannot be reached", m, n, list(op(api.OpUnreachable), block(returns, l...)))
		}
	}
}

// P11.3: and so does each list in it: an instruction with lists can be one that takes a word for an if, and leaves as many as it returns.
func TestTakesNothingWithin(t *testing.T) {
	d := dice(7)
	seen := 0
	for range 500 {
		m := made(&d)
		for n := range m.Funcs {
			for _, i := range places(m.Funcs[n].Code.L) {
				if i.Op != api.OpBlock && i.Op != api.OpLoop && i.Op != api.OpIf {
					continue
				}
				l := words(i.Results)
				if i.Op == api.OpIf {
					l = join(drops(1), l)
				}
				fits(t, "words in its place", m, n, replaced(m.Funcs[n].Code.L, i, l))
				seen++
			}
			for k := range owners(&m.Funcs[n].Code.L) {
				for _, dead := range [][]api.Instr{{op(api.OpUnreachable)}, {op(api.OpUnreachable), op(api.OpSelect), op(api.OpDrop)}} {
					other := cloned(m)
					*owners(&other.Funcs[n].Code.L)[k].l = dead
					fits(t, "a list that is dead", other, n, other.Funcs[n].Code.L)
				}
			}
		}
	}
	if seen < 500 {
		t.Errorf("only %d lists", seen)
	}
}

// replaced returns the list with others in the place of one instruction, anywhere in it.
func replaced(l []api.Instr, at *api.Instr, by []api.Instr) []api.Instr {
	var out []api.Instr
	for k := range l {
		if &l[k] == at {
			out = append(out, by...)
			continue
		}
		i := l[k]
		i.L, i.E = replaced(i.L, at, by), replaced(i.E, at, by)
		out = append(out, i)
	}
	return out
}

// ends are instructions behind which nothing can be reached, with the words that they take in a function of one word.
func ends() [][]api.Instr {
	return [][]api.Instr{{op(api.OpUnreachable)}, {word(1), with(api.OpBr, 0)}, {word(1), word(1), brTable(0, 0)}, {word(1), op(api.OpReturn)}}
}

// P11.3: what cannot be reached may take anything, but its labels, and what it refers to, exist nevertheless.
func TestDeadTakesAnything(t *testing.T) {
	for _, end := range ends() {
		at := len(end) + 1
		eachShape(func(i api.Instr, takes, leaves int) {
			l := join(end, list(i), drops(leaves))
			holds(t, "dead", fn(1, l...), api.OK, 0)
			holds(t, "dead, in a list", fn(1, block(1, l...)), api.OK, 0)
			holds(t, "dead, twice", fn(1, join(end, list(i, i), drops(9))...), api.OK, 0)
		})
		for _, i := range []api.Instr{with(api.OpBr, 0), with(api.OpBrIf, 0), brTable(0), brTable(0, 0, 0), op(api.OpReturn), with(api.OpCall, 0), with(api.OpCall, 2), with(api.OpIndirect, 3), either(0, nil, nil), either(1, words(1), words(1))} {
			holds(t, "dead", fn(1, join(end, list(i))...), api.OK, 0)
		}
		for _, c := range []struct {
			i    api.Instr
			want api.Errno
		}{
			{with(api.OpBr, 1), api.ErrMissing}, {with(api.OpBrIf, 1), api.ErrMissing}, {brTable(1), api.ErrMissing}, {brTable(0, 1), api.ErrMissing}, {with(api.OpCall, 4), api.ErrMissing}, {with(api.OpIndirect, 6), api.ErrMissing},
			{with(api.OpGet, 5), api.ErrMissing}, {with(api.OpSet, 5), api.ErrMissing}, {with(api.OpTee, 5), api.ErrMissing}, {with(api.OpGetGlobal, 2), api.ErrMissing}, {with(api.OpSetGlobal, 2), api.ErrMissing},
			{with(api.OpSetGlobal, 0), api.ErrMut}, {with(api.OpLoad, 3), api.ErrAlign}, {with(api.OpStore8, 1), api.ErrAlign}, {block(1), api.ErrUnder}, {loop(0, word(1)), api.ErrLeft},
		} {
			holds(t, "dead, but missing", fn(1, join(end, list(c.i))...), c.want, at)
			holds(t, "dead, but missing, later", fn(1, join(end, drops(5), list(c.i))...), c.want, at+5)
		}
		holds(t, "dead, with labels of two numbers", fn(1, loop(1, join(end[:1], list(op(api.OpUnreachable), brTable(1, 0)))...)), api.ErrArity, 4)
	}
}
