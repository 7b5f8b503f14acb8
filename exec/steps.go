package exec

import (
	"gimlet/api"
	"gimlet/num"
)

// step does the first instruction that is left.
func (x *Machine) step() {
	l := &x.open[len(x.open)-1]
	i := &l.left[0]
	l.left = l.left[1:]
	x.operate(i, &x.trap)
	if x.trap != api.OK {
		x.finish(api.Fallen, nil)
	}
	x.settle()
}

// operate does an instruction. Where it may not be done, trap becomes why.
func (x *Machine) operate(i *api.Instr, trap *api.Errno) {
	switch i.Op {
	case api.OpUnreachable:
		*trap = api.ErrUnreachable
	case api.OpNop:
	case api.OpBlock:
		x.nest(i.L, nil, i.Results)
	case api.OpLoop:
		x.nest(i.L, i.L, 0)
	case api.OpIf:
		if x.pop() != 0 {
			x.nest(i.L, nil, i.Results)
		} else {
			x.nest(i.E, nil, i.Results)
		}
	case api.OpBr:
		x.jump(i.A)
	case api.OpBrIf:
		if x.pop() != 0 {
			x.jump(i.A)
		}
	case api.OpBrTable:
		x.jump(chosen(i, x.pop()))
	case api.OpReturn:
		x.leave()
	case api.OpCall:
		x.call(i.A)
	case api.OpIndirect:
		x.callEntry(i.A, trap)
	default:
		x.reckon(i, trap)
	}
}

// chosen returns the label that a BrTable has for a word.
func chosen(i *api.Instr, n uint32) uint32 {
	if uint64(n) < uint64(len(i.Tags)) {
		return i.Tags[n]
	}
	return i.A
}

// callEntry calls the function in the entry of the table that is taken, which must have the type t.
func (x *Machine) callEntry(t uint32, trap *api.Errno) {
	n, is, _ := x.place.Entry(x.pop())
	switch {
	case !is:
		*trap = api.ErrEntry
	case x.functions[n].shape != x.module.Types[t]:
		*trap = api.ErrMatch
	default:
		x.call(n)
	}
}

// reckon does an instruction that only takes words, and leaves words.
func (x *Machine) reckon(i *api.Instr, trap *api.Errno) {
	switch i.Op {
	case api.OpDrop:
		x.pop()
	case api.OpSelect:
		x.choose()
	case api.OpGet:
		x.push(x.locals()[i.A])
	case api.OpSet:
		x.locals()[i.A] = x.pop()
	case api.OpTee:
		x.locals()[i.A] = x.top()
	case api.OpGetGlobal:
		v, _ := x.place.Global(i.A)
		x.push(v)
	case api.OpSetGlobal:
		x.place.SetGlobal(i.A, x.pop())
	case api.OpLoad, api.OpLoad8S, api.OpLoad8U, api.OpLoad16S, api.OpLoad16U:
		x.load(i, trap)
	case api.OpStore, api.OpStore8, api.OpStore16:
		x.store(i, trap)
	case api.OpSize:
		x.push(x.place.Memory().Pages())
	case api.OpGrow:
		v, _ := x.place.Memory().Grow(x.pop())
		x.push(v)
	case api.OpConst:
		x.push(uint32(i.N))
	default:
		x.compute(i.Op, trap)
	}
}

// choose leaves one of two words, as a third one says.
func (x *Machine) choose() {
	chooses, other, first := x.pop(), x.pop(), x.pop()
	if chooses != 0 {
		x.push(first)
	} else {
		x.push(other)
	}
}

func (x *Machine) load(i *api.Instr, trap *api.Errno) {
	v, e := x.place.Memory().Load(i.Op, x.pop(), i.B)
	*trap = e
	x.push(v)
}

func (x *Machine) store(i *api.Instr, trap *api.Errno) {
	v, at := x.pop(), x.pop()
	*trap = x.place.Memory().Store(i.Op, at, i.B, v)
}

// compute does an operation of num.
func (x *Machine) compute(op int, trap *api.Errno) {
	var v uint32
	if num.Arity(op) == 1 {
		v, *trap = num.One(op, x.pop())
	} else {
		b, a := x.pop(), x.pop()
		v, *trap = num.Two(op, a, b)
	}
	x.push(v)
}

func (x *Machine) push(v uint32) { x.words = append(x.words, v) }

func (x *Machine) top() uint32 { return x.words[len(x.words)-1] }

func (x *Machine) pop() uint32 {
	v := x.top()
	x.words = x.words[:len(x.words)-1]
	return v
}
