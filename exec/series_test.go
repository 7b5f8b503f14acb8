package exec

import (
	"testing"

	"gimlet/api"
	"gimlet/place"
)

// act is something that is done with a machine.
type act struct {
	name  string // of what is called; none: the start, if starts, or steps
	args  []uint32
	start bool
	steps int
}

// acts are calls, with steps between them: mostly of functions that exist, with as many words as they take.
func acts(d *dice, m api.Module) []act {
	kinds := kindsOf(m)
	var all []act
	for range 1 + d.below(4) {
		n := d.below(len(kinds))
		a := act{name: m.Exports[n].Name}
		for range m.Types[kinds[n]].Params {
			a.args = append(a.args, []uint32{0, 1, 2, 3, 1<<32 - 1}[d.below(5)])
		}
		switch d.below(12) {
		case 0:
			a = act{start: true}
		case 1:
			a.name = "z"
		case 2:
			a.args = append(a.args, 1)
		}
		all = append(all, a)
		for range d.below(5) {
			all = append(all, act{steps: []int{0, 1, 2, 3, 10, 60}[d.below(6)]})
		}
	}
	return all
}

// does holds what a machine answers against the second reading.
func (a act) does(t *testing.T, x *Machine, r *reading) {
	t.Helper()
	switch {
	case a.start:
		startAs(t, x, r.start())
	case a.name != "":
		callAs(t, x, a.name, a.args, r.call(a.name, a.args))
	default:
		stepAs(t, x, a.steps, r.step(a.steps))
	}
}

// All that the chapter says, over many modules, and all that can be done with their machines.
func TestSeries(t *testing.T) {
	d := dice(5)
	ends, traps := map[int]int{}, map[api.Errno]int{}
	for n := range 12000 {
		m := made(&d)
		p, e := place.New(m)
		if e != api.OK {
			t.Fatalf("module %d: place.New = %v", n, e)
		}
		input := "AB\x00\xff"[:d.below(5)]
		x, r := on(t, p, input), read(m, input)
		sameAs(t, "new", x, p, r)
		for k, a := range acts(&d, m) {
			a.does(t, x, r)
			sameAs(t, "done", x, p, r)
			if t.Failed() {
				t.Fatalf("module %d, act %d, %+v: %+v", n, k, a, m)
			}
			ends[r.how]++
			traps[r.trap]++
		}
	}
	for _, how := range []int{api.Idle, api.Going, api.Done, api.Fallen} {
		if ends[how] < 200 {
			t.Errorf("%d times %d", ends[how], how)
		}
	}
	for _, trap := range []api.Errno{api.ErrNought, api.ErrBounds, api.ErrUnreachable, api.ErrEntry, api.ErrMatch} {
		if traps[trap] < 20 {
			t.Errorf("%d times %v", traps[trap], trap)
		}
	}
}

// P14.5, P14.6: steps one by one, in twos, or all at once: after as many the machines are the same, and so are their places; while one is Going a step can be done.
func TestOneByOne(t *testing.T) {
	d := dice(6)
	long := 0
	for n := range 1500 {
		m := made(&d)
		const input, most = "xyz", 120
		p, q, s := placed(t, m), placed(t, m), placed(t, m)
		one, twos, r := on(t, p, input), on(t, q, input), read(m, input)
		f := d.below(len(m.Exports))
		args := make([]uint32, r.kind(uint32(f)).Params)
		for _, x := range []*Machine{one, twos} {
			callAs(t, x, m.Exports[f].Name, args, api.OK)
		}
		r.call(m.Exports[f].Name, args)
		for k := range most {
			stepAs(t, one, 1, r.step(1))
			if k%2 == 1 {
				twos.Step(2)
				sameAs(t, "in twos", twos, q, r)
			}
			sameAs(t, "one by one", one, p, r)
			if r.how == api.Done && len(r.results) != r.kind(uint32(f)).Results {
				t.Errorf("%d results", len(r.results))
			}
			if r.how != api.Going {
				break
			}
			long++
		}
		all := on(t, s, input)
		all.Call(m.Exports[f].Name, args)
		stepAs(t, all, most, r.now.steps)
		sameAs(t, "at once", all, s, r)
		if t.Failed() {
			t.Fatalf("module %d, %s: %+v", n, m.Exports[f].Name, m)
		}
	}
	if long < 10000 {
		t.Errorf("%d steps in all", long)
	}
}

// Two machines of one place, each with its own calls, input and output: what they share are its globals and its memory.
func TestTwoMachines(t *testing.T) {
	d := dice(7)
	calls := 0
	for n := range 2000 {
		m := made(&d)
		p := placed(t, m)
		machines := []*Machine{on(t, p, "AB"), on(t, p, "CDE")}
		readings := []*reading{read(m, "AB"), read(m, "CDE")}
		shared := readings[0].now
		for k := range 6 {
			x, r := machines[k%2], readings[k%2]
			r.now.globals, r.now.bytes = shared.globals, shared.bytes
			f := d.below(len(m.Exports))
			act{name: m.Exports[f].Name, args: make([]uint32, r.kind(uint32(f)).Params)}.does(t, x, r)
			act{steps: 100}.does(t, x, r)
			sameAs(t, "by turns", x, p, r)
			shared = r.now
			if r.how == api.Going {
				break
			}
			calls++
		}
		if t.Failed() {
			t.Fatalf("module %d: %+v", n, m)
		}
	}
	if calls < 5000 {
		t.Errorf("only %d calls", calls)
	}
}
