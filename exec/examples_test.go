package exec

import (
	"testing"

	"gimlet/api"
)

// sum adds up the numbers up to its word.
func sum() api.Module {
	return module(typeBoth, 1,
		block(0, loop(0,
			get(0), op(api.OpEqz), brIf(1),
			get(1), get(0), op(api.OpAdd), set(1),
			get(0), word(1), op(api.OpSub), set(0),
			br(0))),
		get(1))
}

// The chapter's examples.
func TestExamples(t *testing.T) {
	x := must(t, sum(), "")
	callAs(t, x, "f", []uint32{3}, api.OK)
	stepAs(t, x, 5, 5)
	outcomeAs(t, "five steps", x, api.Outcome{How: api.Going, Steps: 5})
	stepAs(t, x, 1000, 37)
	outcomeAs(t, "the end", x, api.Outcome{How: api.Done, Results: []uint32{6}, Steps: 42})
	callAs(t, x, "f", nil, api.ErrArg)
	callAs(t, x, "t", nil, api.ErrMissing)
	if n, e := x.Step(-1); n != 0 || e != api.ErrArg {
		t.Errorf("Step(-1) = %d, %v", n, e)
	}

	x = must(t, doing(calling(theGetc), calling(thePutc)), "A")
	callAs(t, x, "f", nil, api.OK)
	stepAs(t, x, 9, 2)
	outcomeAs(t, "putc of getc", x, api.Outcome{How: api.Done, Out: []byte("A"), Read: 1, Steps: 2})

	falls(t, "1 / 0", leaving(word(1), word(0), op(api.OpDivU)), 3, api.ErrNought)
	falls(t, "unreachable", leaving(op(api.OpUnreachable)), 1, api.ErrUnreachable)
	falls(t, "a load", leaving(word(pageBytes-3), op(api.OpLoad)), 2, api.ErrBounds)
}
