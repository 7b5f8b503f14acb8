package exec

import (
	"slices"
	"sync"
	"testing"

	"gimlet/api"
)

// roomy returns a list with room behind it, filled with something.
func roomy[T any](l []T, x T) []T {
	wide := append(slices.Clone(l), x, x, x, x)
	return wide[:len(l)]
}

// fill makes a list, with the room behind it, something else.
func fill[T any](l []T, x T) {
	l = l[:cap(l)]
	for k := range l {
		l[k] = x
	}
}

// copier writes what it reads, and returns the sum of its two words.
func copier() api.Module {
	return module(typeTwo, 0,
		calling(theGetc), calling(thePutc), calling(theGetc), calling(thePutc),
		word(99), set(0), get(0), get(1), op(api.OpAdd))
}

// Rule 4: neither the input nor the words that are handed in are changed, or kept, with the room behind them.
func TestArgumentsApart(t *testing.T) {
	input, args := roomy([]byte("AB"), 'z'), roomy([]uint32{5, 6}, 1000)
	x, e := New(placed(t, copier()), input)
	if e != api.OK {
		t.Fatal(e)
	}
	for round := range 3 {
		wantInput, wantArgs := slices.Clone(input[:cap(input)]), slices.Clone(args[:cap(args)])
		callAs(t, x, "f", args, api.OK)
		stepAs(t, x, 9, 9)
		callAs(t, x, "putc", args[:1], api.OK)
		if !slices.Equal(input[:cap(input)], wantInput) || !slices.Equal(args[:cap(args)], wantArgs) {
			t.Errorf("round %d: %q, %v", round, input[:cap(input)], args[:cap(args)])
		}
	}
	outcomeAs(t, "at the input's end", x, api.Outcome{How: api.Done, Out: []byte("AB\x05\xff\xff\x05\xff\xff\x05"), Read: 2, Steps: 27})

	x, _ = New(placed(t, copier()), input)
	fill(input, '#')
	callAs(t, x, "f", args, api.OK)
	fill(args, 77)
	stepAs(t, x, 9, 9)
	outcomeAs(t, "changed later", x, api.Outcome{How: api.Done, Results: []uint32{105}, Out: []byte("AB"), Read: 2, Steps: 9})
}

// Rule 4: what Outcome returns is new memory each time, with the room behind it; it stays as it was.
func TestOutcomeApart(t *testing.T) {
	x := must(t, copier(), "ABCD")
	callAs(t, x, "f", []uint32{1, 2}, api.OK)
	stepAs(t, x, 9, 9)
	want := api.Outcome{How: api.Done, Results: []uint32{101}, Out: []byte("AB"), Read: 2, Steps: 9}
	one, other := x.Outcome(), x.Outcome()
	fill(one.Out, '#')
	fill(one.Results, 7)
	if !same(other, want) {
		t.Errorf("two that were returned are one: %+v", other)
	}
	outcomeAs(t, "what was returned was changed", x, want)
	fill(other.Results, 7)
	other = x.Outcome()
	callAs(t, x, "f", []uint32{3, 4}, api.OK)
	stepAs(t, x, 9, 9)
	if !same(other, want) {
		t.Errorf("what was returned changed: %+v", other)
	}
	outcomeAs(t, "twice", x, api.Outcome{How: api.Done, Results: []uint32{103}, Out: []byte("ABCD"), Read: 4, Steps: 18})
	// In the midst of a run.
	x = must(t, copier(), "ABCD")
	callAs(t, x, "f", []uint32{1, 2}, api.OK)
	stepAs(t, x, 3, 3)
	one = x.Outcome()
	fill(one.Out, '#')
	stepAs(t, x, 6, 6)
	outcomeAs(t, "in the midst", x, want)
}

// The module that the place tells may be changed; the machine's own does not.
func TestModuleApart(t *testing.T) {
	p := placed(t, sum())
	x := on(t, p, "")
	m := p.Module()
	fill(m.Funcs[0].Code.L, op(api.OpUnreachable))
	fill(m.Exports, api.Export{})
	callAs(t, x, "f", []uint32{3}, api.OK)
	stepAs(t, x, 99, 42)
	outcomeAs(t, "changed", x, api.Outcome{How: api.Done, Results: []uint32{6}, Steps: 42})
}

// Two machines of one place in the midst of their runs: each has its own calls and words, and both have the place's.
func TestInterleaved(t *testing.T) {
	l := code(word(30), get(0), with(api.OpGetGlobal, 0), op(api.OpAdd), with(api.OpTee, 0), with(api.OpSetGlobal, 0), get(0), op(api.OpAdd))
	p := placed(t, module(typeBoth, 0, l...))
	x, y := on(t, p, ""), on(t, p, "")
	callAs(t, x, "f", []uint32{100}, api.OK)
	callAs(t, y, "f", []uint32{1000}, api.OK)
	for range 2 {
		stepAs(t, x, 1, 1)
		stepAs(t, y, 1, 1)
	}
	stepAs(t, x, 9, 6)
	stepAs(t, y, 9, 6)
	outcomeAs(t, "the first one", x, api.Outcome{How: api.Done, Results: []uint32{137}, Steps: 8})
	outcomeAs(t, "the second one", y, api.Outcome{How: api.Done, Results: []uint32{1137}, Steps: 8})
	if v, _ := p.Global(0); v != 1107 {
		t.Errorf("the global is %d", v)
	}
}

// Machines of places of their own, used at the same time.
func TestAtOnce(t *testing.T) {
	var all sync.WaitGroup
	m := sum()
	for n := range uint32(8) {
		x := must(t, m, "")
		all.Go(func() {
			for range 200 {
				x.Call("f", []uint32{n})
				for x.Outcome().How == api.Going {
					x.Step(7)
				}
				if o := x.Outcome(); o.Results[0] != n*(n+1)/2 {
					t.Errorf("%d: %+v", n, o)
				}
			}
		})
	}
	all.Wait()
}
