package valid

import (
	"gimlet/api"
	"gimlet/instr"
	"gimlet/module"
	"gimlet/stack"
)

// checker checks the instructions of a function up to the first error: what comes after that does nothing any more.
type checker struct {
	m       api.Module
	locals  int // how many local words the function has
	results int // how many words it returns
	stand   api.Stand
	count   int // how many instructions have been begun
	at      int // the number of the instruction that is being checked; 0: the function itself
	err     api.Errno
}

// bodyError returns the first error of a function that a well-formed module has, and the number of the instruction that has it.
func bodyError(m api.Module, n int) (api.Errno, int) {
	t, is := module.TypeOf(m, uint32(len(m.Imports)+n))
	if !is {
		return api.ErrMissing, 0
	}
	code := m.Funcs[n].Code
	c := &checker{m: m, locals: t.Params + code.Locals, results: t.Results}
	c.stand, c.err = stack.New(t.Results)
	c.list(code.L)
	return c.err, c.at
}

// list checks a list that was entered, and leaves it.
func (c *checker) list(l []api.Instr) {
	own := c.at
	for _, i := range l {
		if c.err != api.OK {
			return
		}
		c.count++
		c.at = c.count
		c.instruction(i)
	}
	c.leave(own)
}

func (c *checker) instruction(i api.Instr) {
	c.fail(c.lacks(i))
	switch i.Op {
	case api.OpUnreachable:
		c.dead()
	case api.OpBlock, api.OpLoop:
		c.enter(i.Op, i.Results)
		c.list(i.L)
	case api.OpIf:
		c.either(i)
	case api.OpBrTable:
		c.labels(i.Tags, i.A)
		c.pop(1)
		fallthrough
	case api.OpBr:
		c.pop(c.label(i.A))
		c.dead()
	case api.OpBrIf:
		k := c.label(i.A)
		c.pop(1)
		c.pop(k)
		c.push(k)
	case api.OpReturn:
		c.pop(c.results)
		c.dead()
	case api.OpIndirect:
		c.pop(1)
		fallthrough
	case api.OpCall:
		t, _ := c.callee(i)
		c.pop(t.Params)
		c.push(t.Results)
	default:
		takes, leaves, _ := instr.Shape(i.Op)
		c.pop(takes)
		c.push(leaves)
	}
}

// lacks returns the error of an instruction that refers to what does not exist, or that may not use it so. (Labels are left to the stand.)
func (c *checker) lacks(i api.Instr) api.Errno {
	missing := false
	switch i.Op {
	case api.OpCall, api.OpIndirect:
		_, is := c.callee(i)
		missing = !is
	case api.OpGet, api.OpSet, api.OpTee:
		missing = !has(c.locals, i.A)
	case api.OpSetGlobal:
		if has(len(c.m.Globals), i.A) && !c.m.Globals[i.A].Mut {
			return api.ErrMut
		}
		fallthrough
	case api.OpGetGlobal:
		missing = !has(len(c.m.Globals), i.A)
	case api.OpLoad, api.OpLoad8S, api.OpLoad8U, api.OpLoad16S, api.OpLoad16U,
		api.OpStore, api.OpStore8, api.OpStore16:
		// Without a memory it is that which is missing, however the instruction is aligned.
		if most, _ := instr.Align(i.Op); i.A > most && len(c.m.Memories) > 0 {
			return api.ErrAlign
		}
		fallthrough
	case api.OpSize, api.OpGrow:
		missing = len(c.m.Memories) == 0
	}
	if missing {
		return api.ErrMissing
	}
	return api.OK
}

// callee returns the type of what an instruction calls, and whether there is one to call.
func (c *checker) callee(i api.Instr) (api.FuncType, bool) {
	if i.Op == api.OpCall {
		return module.TypeOf(c.m, i.A)
	}
	if len(c.m.Tables) == 0 || !has(len(c.m.Types), i.A) {
		return api.FuncType{}, false
	}
	return c.m.Types[i.A], true
}

// either checks an If: both of its lists begin at the same stand.
func (c *checker) either(i api.Instr) {
	c.pop(1)
	before := c.stand
	c.enter(api.OpIf, i.Results)
	c.list(i.L)
	c.stand = before
	c.enter(api.OpElse, i.Results)
	c.list(i.E)
}

// labels checks that a table's labels exist, and only then whether they take as many words as its last one.
func (c *checker) labels(tags []uint32, last uint32) {
	k, alike := c.label(last), true
	for _, tag := range tags {
		alike = c.label(tag) == k && alike
	}
	if !alike {
		c.fail(api.ErrArity)
	}
}

// label returns how many words a jump to a label takes.
func (c *checker) label(n uint32) int {
	if c.err != api.OK {
		return 0
	}
	// What is no int becomes a number below 0, which is no label either.
	k, e := stack.Label(c.stand, int(n))
	c.fail(e)
	return k
}

// fail keeps the first error.
func (c *checker) fail(e api.Errno) {
	if c.err != api.OK {
		return
	}
	c.err = e
}

func (c *checker) push(n int) {
	if c.err != api.OK {
		return
	}
	c.stand, c.err = stack.Push(c.stand, n)
}

func (c *checker) pop(n int) {
	if c.err != api.OK {
		return
	}
	c.stand, c.err = stack.Pop(c.stand, n)
}

func (c *checker) dead() {
	if c.err != api.OK {
		return
	}
	c.stand, c.err = stack.Dead(c.stand)
}

func (c *checker) enter(op, results int) {
	if c.err != api.OK {
		return
	}
	c.stand, c.err = stack.Enter(c.stand, op, results)
}

// leave leaves the list of the instruction own, which is the one that has the error, if there is one.
func (c *checker) leave(own int) {
	if c.err != api.OK {
		return
	}
	c.at = own
	c.stand, c.err = stack.Leave(c.stand)
}

// has returns whether a list of n items has an item at.
func has(n int, at uint32) bool { return uint64(at) < uint64(n) }
