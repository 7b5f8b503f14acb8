package exec

import (
	"slices"

	"gimlet/api"
	"gimlet/place"
)

// nothingRead is what getc returns when there is no byte left.
const nothingRead = 1<<32 - 1

// function is one that can be called.
type function struct {
	host  int // which one of the host it is; 0: it is the module's own
	shape api.FuncType
	code  api.Code
}

// call is a call of one of the module's own functions that lasts.
type call struct {
	base     int // how many words stood ahead of those that it has taken
	from, to int // where its local words stand
	lists    int // how many lists were open ahead of its own
}

// list is one that is open.
type list struct {
	left  []api.Instr // what is left of it
	again []api.Instr // what is left of it behind a jump to it: everything of a Loop's, nothing of another
	takes int         // how many words a jump to it takes along
	base  int         // how many words stood ahead of it
}

// functionsOf returns the functions of a place, whose module is m, by number.
func functionsOf(p *place.Place, m api.Module) []function {
	all := make([]function, 0, len(m.Imports)+len(m.Funcs))
	for k, i := range m.Imports {
		host, _ := p.Host(uint32(k))
		all = append(all, function{host: host, shape: m.Types[i.Type]})
	}
	for _, f := range m.Funcs {
		all = append(all, function{shape: m.Types[f.Type], code: f.Code})
	}
	return all
}

// begin begins a run: a call from outside, of as many words as the function takes.
func (x *Machine) begin(n uint32, args []uint32) {
	x.how, x.trap, x.results = api.Going, api.OK, nil
	x.words = append(x.words, args...)
	x.call(n)
	x.settle()
}

// finish ends the run. Nothing that was open in it is kept.
func (x *Machine) finish(how int, results []uint32) {
	x.how, x.results = how, slices.Clone(results)
	x.words, x.calls, x.open = nil, nil, nil
}

// call calls a function, which takes the upper words.
func (x *Machine) call(n uint32) {
	f := &x.functions[n]
	switch f.host {
	case api.HostGet:
		x.push(x.get())
	case api.HostPut:
		x.out = append(x.out, byte(x.pop()))
	default:
		x.enter(f)
	}
}

// get reads a byte.
func (x *Machine) get() uint32 {
	if x.read == len(x.input) {
		return nothingRead
	}
	x.read++
	return uint32(x.input[x.read-1])
}

// enter opens a call of one of the module's own functions. Its words come to stand on those that it takes, which are moved among them.
func (x *Machine) enter(f *function) {
	if len(x.calls) == api.MaxFrames {
		x.finish(api.Deep, nil)
		return
	}
	from := len(x.words)
	c := call{base: from - f.shape.Params, from: from, to: from + f.shape.Params + f.code.Locals, lists: len(x.open)}
	x.words = append(x.words, make([]uint32, c.to-c.from)...)
	copy(x.words[c.from:c.to:c.to], x.words[c.base:c.from:c.from])
	x.calls = append(x.calls, c)
	x.nest(f.code.L, nil, f.shape.Results)
}

// locals returns the local words of the innermost call.
func (x *Machine) locals() []uint32 {
	c := &x.calls[len(x.calls)-1]
	return x.words[c.from:c.to:c.to]
}

// nest opens a list on the words that stand there.
func (x *Machine) nest(l, again []api.Instr, takes int) {
	x.open = append(x.open, list{left: l, again: again, takes: takes, base: len(x.words)})
}

// jump goes to the n-th open list from within. One that does not go on from its beginning has nothing left then, and is closed as if it had come to its end.
func (x *Machine) jump(n uint32) { x.jumpTo(len(x.open) - 1 - int(n)) }

// leave goes to the end of the innermost call's own list.
func (x *Machine) leave() { x.jumpTo(x.calls[len(x.calls)-1].lists) }

func (x *Machine) jumpTo(at int) {
	l := &x.open[at]
	l.left = l.again
	x.keep(l.base, l.takes)
	x.open = x.open[:at+1]
}

// keep removes the words from base on, except for the n upper ones.
func (x *Machine) keep(base, n int) {
	copy(x.words[base:base+n:base+n], x.words[len(x.words)-n:])
	x.words = x.words[:base+n]
}

// settle closes the lists that have nothing left, and ends the calls, and the run, that are at their end by that.
func (x *Machine) settle() {
	for x.how == api.Going {
		if len(x.calls) == 0 {
			x.finish(api.Done, x.words)
			return
		}
		last := len(x.open) - 1
		if len(x.open[last].left) > 0 {
			return
		}
		// The words that a list returns stand where they belong; those of a call have its local words below them.
		if c := x.calls[len(x.calls)-1]; c.lists == last {
			x.keep(c.base, x.open[last].takes)
			x.calls = x.calls[:len(x.calls)-1]
		}
		x.open = x.open[:last]
	}
}
