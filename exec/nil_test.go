package exec

import (
	"math"
	"testing"

	"gimlet/api"
	"gimlet/place"
)

// P14.1: of a place that place.New did not return there is no machine, whatever the input.
func TestInvalidPlace(t *testing.T) {
	good := placed(t, sum())
	copied := *good
	for what, p := range map[string]*place.Place{"nil": nil, "new": new(place.Place), "a literal": {}, "a copy": &copied} {
		for _, input := range [][]byte{nil, {}, []byte("abc")} {
			if x, e := New(p, input); x != nil || e != api.ErrNil {
				t.Errorf("%s: New = %v, %v", what, x, e)
			}
		}
	}
}

// P14.1: of any other there is one, Idle, which has done nothing: of a module with nothing too.
func TestNew(t *testing.T) {
	for _, m := range []api.Module{{}, sum(), several(), {Types: types()}, {Globals: []api.Global{{Init: code(word(1))}}}, {Memories: []api.Limits{{}}}} {
		for _, input := range []string{"", "abc"} {
			p := placed(t, m)
			outcomeAs(t, "new", on(t, p, input), api.Outcome{How: api.Idle})
			outcomeAs(t, "a second one", on(t, p, input), api.Outcome{How: api.Idle})
		}
	}
	if x, e := New(placed(t, sum()), nil); x == nil || e != api.OK {
		t.Errorf("no input: %v, %v", x, e)
	}
}

// invalid are machines that New did not return: none, one that nobody filled, and a copy of one that New returned.
func invalid(x *Machine) map[string]*Machine {
	whole := *x
	inner := &struct{ x Machine }{*x}
	return map[string]*Machine{
		"nil":                nil,
		"new":                new(Machine),
		"a literal":          {},
		"a copy":             &whole,
		"a copy in a struct": &inner.x,
	}
}

// Rule 5: a method of an invalid machine returns ErrNil, ahead of any other error, or zero values; it changes no other machine.
func TestInvalid(t *testing.T) {
	good := must(t, several(), "abc")
	for _, name := range []string{"", "f", "fallen", "going"} {
		if name != "" {
			callAs(t, good, name, nil, api.OK)
			stepAs(t, good, 13, 13)
		}
		before := good.Outcome()
		for what, x := range invalid(good) {
			for _, n := range []int{0, 1, -1, 100, math.MinInt, math.MaxInt} {
				if done, e := x.Step(n); done != 0 || e != api.ErrNil {
					t.Errorf("%s: Step(%d) = %d, %v", what, n, done, e)
				}
			}
			for _, name := range []string{"f", "putc", "none", ""} {
				callAs(t, x, name, nil, api.ErrNil)
				callAs(t, x, name, []uint32{1, 2}, api.ErrNil)
			}
			startAs(t, x, api.ErrNil)
			outcomeAs(t, what, x, api.Outcome{})
			outcomeAs(t, "what was copied", good, before)
			if t.Failed() {
				t.Fatal(what)
			}
		}
		if name == "fallen" {
			stepAs(t, good, 9, 2)
		}
	}
}
