package exec

import (
	"math"
	"testing"

	"gimlet/api"
)

// several is a module whose functions end in all ways: go on for ever, done, fallen, deep; each leaves something behind it.
func several() api.Module {
	trace := code(
		with(api.OpGetGlobal, 0), word(1), op(api.OpAdd), with(api.OpSetGlobal, 0),
		word(16), word(16), op(api.OpLoad), word(1), op(api.OpAdd), op(api.OpStore),
		calling(theGetc), calling(thePutc))
	m := module(typeGet, 0, join(trace, code(word(5)))...)
	m = add(m, typeNone, 0, join(trace, code(word(1), word(2), op(api.OpUnreachable)))...)
	m = add(m, typeNone, 0, join(trace, code(calling(theF+5)))...)
	m = add(m, typeNone, 0, join(trace, code(loop(0, br(0))))...)
	m = add(m, typePut, 0, join(trace, code(get(0), get(0), op(api.OpDivU), op(api.OpDrop)))...)
	m = add(m, typeNone, 0, calling(theF+5))
	for k, name := range []string{"fallen", "deep", "going", "divides"} {
		m.Exports = append(m.Exports, api.Export{Name: name, Index: theF + 1 + uint32(k)})
	}
	m.Started, m.Start = true, theF+1
	return m
}

// P14.4: the Trap if it is Fallen, the Results if it is Done, none otherwise; Out, Read and Steps of everything.
func TestOutcome(t *testing.T) {
	p := placed(t, several())
	x := on(t, p, "abcdefgh")
	outcomeAs(t, "new", x, api.Outcome{How: api.Idle})
	want := api.Outcome{}
	ends := []struct {
		name  string
		args  []uint32
		steps int
		end   api.Outcome
	}{
		{"f", nil, 13, api.Outcome{How: api.Done, Results: []uint32{5}}},
		{"fallen", nil, 15, api.Outcome{How: api.Fallen, Trap: api.ErrUnreachable}},
		{"f", nil, 13, api.Outcome{How: api.Done, Results: []uint32{5}}},
		{"deep", nil, 12 + most, api.Outcome{How: api.Deep}},
		{"divides", []uint32{0}, 15, api.Outcome{How: api.Fallen, Trap: api.ErrNought}},
		{"divides", []uint32{2}, 16, api.Outcome{How: api.Done}},
		{"", nil, 15, api.Outcome{How: api.Fallen, Trap: api.ErrUnreachable}},
		{"deep", nil, 12 + most, api.Outcome{How: api.Deep}},
		{"f", nil, 13, api.Outcome{How: api.Done, Results: []uint32{5}}},
	}
	for k, c := range ends {
		if c.name == "" {
			startAs(t, x, api.OK)
		} else {
			callAs(t, x, c.name, c.args, api.OK)
		}
		// Going: neither results nor a trap of the last run.
		want.How, want.Trap, want.Results = api.Going, api.OK, nil
		outcomeAs(t, "called", x, want)
		stepAs(t, x, 10, 10)
		want.Steps += 10
		outcomeAs(t, "going", x, want)
		stepAs(t, x, plenty, c.steps-10)
		want.Steps += c.steps - 10
		want.How, want.Trap, want.Results = c.end.How, c.end.Trap, c.end.Results
		if k < 8 {
			want.Read++
			want.Out = append(want.Out, "abcdefgh"[k])
		} else {
			want.Out = append(want.Out, 255)
		}
		for range 2 {
			outcomeAs(t, "the end", x, want)
			stepAs(t, x, 10, 0)
		}
		refuses(t, x)
		outcomeAs(t, "refused", x, want)
		// Memory and globals are as they were left, by what fell too.
		v, _ := p.Global(0)
		if b, _ := p.Memory().Load(api.OpLoad, 16, 0); v != uint32(8+k) || b != uint32(k+1) {
			t.Errorf("after %s: the global is %d, the word %d", c.name, v, b)
		}
	}
}

// refuses holds that calls are refused that the module does not have.
func refuses(t *testing.T, x *Machine) {
	t.Helper()
	callAs(t, x, "none", nil, api.ErrMissing)
	callAs(t, x, "f", []uint32{1}, api.ErrArg)
	if n, e := x.Step(-1); n != 0 || e != api.ErrArg {
		t.Errorf("Step(-1) = %d, %v", n, e)
	}
}

// P14.3: at most so many steps, as long as it is Going; the last one counts; none otherwise; fewer than none are refused.
func TestStep(t *testing.T) {
	for n := range 20 {
		x := must(t, several(), "")
		callAs(t, x, "fallen", nil, api.OK)
		stepAs(t, x, n, min(n, 15))
		how, trap := api.Going, api.OK
		if n >= 15 {
			how, trap = api.Fallen, api.ErrUnreachable
		}
		want := api.Outcome{How: how, Trap: trap, Steps: min(n, 15)}
		if n >= 12 {
			want.Out = []byte{255}
		}
		outcomeAs(t, "some steps", x, want)
		stepAs(t, x, 0, 0)
		outcomeAs(t, "no step", x, want)
		for _, less := range []int{-1, -2, math.MinInt32, math.MinInt} {
			if done, e := x.Step(less); done != 0 || e != api.ErrArg {
				t.Errorf("Step(%d) = %d, %v", less, done, e)
			}
			outcomeAs(t, "fewer than none", x, want)
		}
		stepAs(t, x, math.MaxInt, 15-min(n, 15))
		stepAs(t, x, math.MaxInt, 0)
	}
	x := must(t, several(), "")
	stepAs(t, x, 0, 0)
	stepAs(t, x, math.MaxInt, 0)
	refuses(t, x)
	outcomeAs(t, "idle", x, api.Outcome{})
	for name, steps := range map[string]int{"f": 13, "deep": 12 + most} {
		y := must(t, several(), "")
		callAs(t, y, name, nil, api.OK)
		stepAs(t, y, steps-1, steps-1)
		if o := y.Outcome(); o.How != api.Going || o.Steps != steps-1 {
			t.Errorf("%s, ahead of its end: %+v", name, o)
		}
		stepAs(t, y, 5, 1)
		if o := y.Outcome(); o.How == api.Going || o.Steps != steps {
			t.Errorf("%s, its end: %+v", name, o)
		}
	}
}

// A machine that is Going refuses calls; one that is in any other state takes them.
func TestStates(t *testing.T) {
	x := must(t, several(), "")
	callAs(t, x, "going", nil, api.OK)
	stepAs(t, x, 1000, 1000)
	callAs(t, x, "f", nil, api.ErrState)
	callAs(t, x, "none", nil, api.ErrState)
	callAs(t, x, "f", []uint32{1}, api.ErrState)
	startAs(t, x, api.ErrState)
	stepAs(t, x, 1000, 1000)
	if o := x.Outcome(); o.How != api.Going || o.Steps != 2000 {
		t.Errorf("for ever: %+v", o)
	}
}
