package body

import (
	"slices"

	"gimlet/api"
	"gimlet/instr"
	"gimlet/leb"
)

// reader reads bytes from a place on, up to the first fault: after that it reads nothing more, and keeps that fault.
type reader struct {
	b     []byte
	at    int
	fault api.Fault
}

// open is a list whose end has not been read yet.
type open struct {
	owner api.Instr // the instruction that it belongs to: none for the outermost list
	l     []api.Instr
	other bool // whether it is E of its owner
}

func newReader(b []byte, at int) *reader {
	r := &reader{b: b, at: at}
	if at < 0 || at > len(b) {
		r.refuse(api.ErrRange, 0)
	}
	return r
}

func (r *reader) refuse(e api.Errno, at int) {
	if !r.faulty() {
		r.fault = api.Fault{Err: e, At: at}
	}
}

func (r *reader) faulty() bool { return r.fault.Err != api.OK }

// list reads instructions up to their end.
func (r *reader) list() []api.Instr {
	stack, count := []open{{}}, 0
reading:
	for {
		top := &stack[len(stack)-1]
		op := r.operation(top.divisible(), len(stack), count)
		switch {
		case r.faulty():
			break reading
		case op == api.OpElse:
			top.divide()
		case op == api.OpEnd && len(stack) == 1:
			break reading
		case op == api.OpEnd:
			stack = closeTop(stack)
		case follows(op)&lists != 0:
			stack = append(stack, open{owner: r.instruction(op)})
			count++
		default:
			top.l = append(top.l, r.instruction(op))
			count++
		}
	}
	return stack[0].l
}

// divisible returns whether an OpElse may end the list.
func (o *open) divisible() bool { return o.owner.Op == api.OpIf && !o.other }

// divide goes on from the first list of an OpIf to the second one.
func (o *open) divide() {
	o.owner.L, o.l, o.other = o.l, nil, true
}

// closeTop puts the instruction whose last list has ended into the list around it.
func closeTop(stack []open) []open {
	top := stack[len(stack)-1]
	if top.other {
		top.owner.E = top.l
	} else {
		top.owner.L = top.l
	}
	stack = stack[:len(stack)-1]
	around := &stack[len(stack)-1]
	around.l = append(around.l, top.owner)
	return stack
}

// operation reads the byte that begins an instruction, which would be so deep and have so many before it, or that ends a list.
func (r *reader) operation(divisible bool, deep, before int) int {
	start := r.at
	op := int(r.one())
	switch {
	case op == api.OpEnd, op == api.OpElse && divisible:
	case instr.Name(op) == "":
		r.refuse(api.ErrOp, start)
	case deep > api.MaxLists, before >= api.MaxCode:
		r.refuse(api.ErrMany, start)
	}
	return op
}

// instruction reads what follows an operation, without its lists.
func (r *reader) instruction(op int) api.Instr {
	i, has := api.Instr{Op: op}, follows(op)
	if has&results != 0 && r.oneOf(api.TypeNone, api.TypeWord) == api.TypeWord {
		i.Results = 1
	}
	if has&labels != 0 {
		i.Tags = r.labels()
	}
	if has&first != 0 {
		i.A = r.unsigned()
	}
	if has&second != 0 {
		i.B = r.unsigned()
	}
	if has&number != 0 {
		i.N = r.signed()
	}
	if has&nought != 0 {
		r.oneOf(0)
	}
	return i
}

func (r *reader) labels() []uint32 {
	start := r.at
	n := r.unsigned()
	if n > api.MaxItems {
		r.refuse(api.ErrMany, start)
	}
	var tags []uint32
	for range n {
		if r.faulty() {
			break
		}
		tags = append(tags, r.unsigned())
	}
	return tags
}

// locals reads the groups of local words, and returns how many words these are.
func (r *reader) locals() int {
	total := uint32(0)
	for range r.unsigned() {
		start := r.at
		n := r.unsigned()
		if n > api.MaxLocals-total {
			r.refuse(api.ErrMany, start)
		}
		r.oneOf(api.TypeWord)
		if r.faulty() {
			break
		}
		total += n
	}
	return int(total)
}

// one reads a byte.
func (r *reader) one() byte {
	if r.faulty() {
		return 0
	}
	if r.at == len(r.b) {
		r.refuse(api.ErrBytes, r.at)
		return 0
	}
	c := r.b[r.at]
	r.at++
	return c
}

// oneOf reads a byte that must be one of those that are allowed.
func (r *reader) oneOf(allowed ...byte) byte {
	start := r.at
	c := r.one()
	if !slices.Contains(allowed, c) {
		r.refuse(api.ErrTag, start)
	}
	return c
}

func (r *reader) unsigned() uint32 { return readNumber(r, leb.GetU) }

func (r *reader) signed() int32 { return readNumber(r, leb.GetS) }

func readNumber[N uint32 | int32](r *reader, get func([]byte, int) (N, int, api.Fault)) N {
	if r.faulty() {
		return 0
	}
	n, next, fault := get(r.b, r.at)
	if fault.Err != api.OK {
		r.refuse(fault.Err, fault.At)
		return 0
	}
	r.at = next
	return n
}
