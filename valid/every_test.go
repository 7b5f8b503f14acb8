package valid

import (
	"testing"

	"gimlet/api"
	"gimlet/instr"
	"gimlet/module"
)

// agrees holds what is answered of a function of a well-formed module against the second reading.
func agrees(t *testing.T, m api.Module, n int) api.Errno {
	t.Helper()
	want, there := readBody(m, n)
	e, at := Body(m, n)
	if e != want || at != there {
		t.Fatalf("%s: Body = %v, %d; want %v, %d", instr.Text(m.Funcs[n].Code.L), e, at, want, there)
	}
	return e
}

// All lists of up to three instructions of the alphabet, in a function of both Results.
func TestEveryShort(t *testing.T) {
	letters := alphabet()
	seen := map[api.Errno]int{}
	for results := range 2 {
		m := fn(results)
		put := func(l ...api.Instr) {
			m.Funcs[0].Code.L = l
			seen[agrees(t, m, 0)]++
		}
		put()
		for _, a := range letters {
			put(a)
			for _, b := range letters {
				put(a, b)
				for _, c := range letters {
					put(a, b, c)
				}
			}
		}
	}
	// There is only one list to jump to: labels of unlike numbers of words need two.
	checkSeen(t, seen, api.OK, api.ErrMissing, api.ErrUnder, api.ErrLeft, api.ErrAlign, api.ErrMut)
}

// checkSeen tells which of the answers has hardly occurred.
func checkSeen(t *testing.T, seen map[api.Errno]int, all ...api.Errno) {
	t.Helper()
	for _, e := range all {
		if seen[e] < 20 {
			t.Errorf("%v occurred %d times", e, seen[e])
		}
	}
}

// Lists of up to two instructions of the alphabet, in a list of each kind, with an instruction behind that.
func TestEveryWithin(t *testing.T) {
	letters := alphabet()
	seen := map[api.Errno]int{}
	m := fn(0)
	for _, a := range letters {
		for _, b := range letters {
			for r := range 2 {
				for _, l := range [][]api.Instr{
					{block(r, a, b)}, {loop(r, a, b)}, {word(1), either(r, list(a, b), nil)}, {word(1), either(r, words(r), list(a, b))}, {word(1), either(r, list(a), list(b))},
					{word(1), block(r, a), b}, {word(1), loop(r, a), b}, {word(1), either(r, list(op(api.OpUnreachable), a), words(r)), b},
					{block(0, block(r, a, b), op(api.OpDrop))}, {loop(1, word(2), loop(r, a, b))}, {op(api.OpUnreachable), block(r, a, b), op(api.OpDrop)}, {block(r, op(api.OpUnreachable), a, b)},
				} {
					m.Funcs[0].Code.L = l
					seen[agrees(t, m, 0)]++
				}
			}
		}
	}
	checkSeen(t, seen, api.OK, api.ErrMissing, api.ErrUnder, api.ErrLeft, api.ErrAlign, api.ErrMut, api.ErrArity)
}

// Modules that are valid by how they are made, and such with a few things otherwise.
func TestEveryMade(t *testing.T) {
	d := dice(1)
	seen, checked := map[api.Errno]int{}, map[api.Errno]int{}
	for range 3000 {
		m := made(&d)
		if w := Check(m); w != (api.Wrong{}) {
			t.Fatalf("Check of %+v = %+v", m, w)
		}
		for range 4 {
			bad := spoilt(m, &d)
			if e := module.Check(bad); e != api.OK {
				if w := Check(bad); w != (api.Wrong{Err: e}) {
					t.Fatalf("Check of %+v = %+v, want %v", bad, w, e)
				}
				continue
			}
			for n := range bad.Funcs {
				seen[agrees(t, bad, n)]++
			}
			w := Check(bad)
			if want := readCheck(bad); w != want {
				t.Fatalf("Check of %+v = %+v, want %+v", bad, w, want)
			}
			checked[w.Err]++
		}
	}
	checkSeen(t, seen, api.OK, api.ErrMissing, api.ErrUnder, api.ErrLeft, api.ErrAlign, api.ErrMut, api.ErrArity)
	checkSeen(t, checked, api.OK, api.ErrMissing, api.ErrThere, api.ErrUnder, api.ErrLeft, api.ErrConst, api.ErrAlign, api.ErrMut, api.ErrShape, api.ErrArity)
}
