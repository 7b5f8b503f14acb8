package body

import (
	"slices"
	"strings"

	"gimlet/api"
	"gimlet/leb"
)

// row is a row of the chapter's table: what follows an operation, a letter each: R the byte for Results, T the labels and their number, A, B, N, 0 a byte 0, L the lists.
type row struct {
	op      int
	follows string
}

// table has every operation.
func table() []row {
	out := []row{
		{api.OpUnreachable, ""}, {api.OpNop, ""}, {api.OpReturn, ""}, {api.OpDrop, ""}, {api.OpSelect, ""},
		{api.OpBlock, "RL"}, {api.OpLoop, "RL"}, {api.OpIf, "RL"},
		{api.OpBr, "A"}, {api.OpBrIf, "A"}, {api.OpCall, "A"},
		{api.OpGet, "A"}, {api.OpSet, "A"}, {api.OpTee, "A"}, {api.OpGetGlobal, "A"}, {api.OpSetGlobal, "A"},
		{api.OpIndirect, "A0"},
		{api.OpBrTable, "TA"},
		{api.OpLoad, "AB"}, {api.OpLoad8S, "AB"}, {api.OpLoad8U, "AB"}, {api.OpLoad16S, "AB"}, {api.OpLoad16U, "AB"},
		{api.OpStore, "AB"}, {api.OpStore8, "AB"}, {api.OpStore16, "AB"},
		{api.OpSize, "0"}, {api.OpGrow, "0"},
		{api.OpConst, "N"},
	}
	for op := api.OpEqz; op <= api.OpGeU; op++ {
		out = append(out, row{op, ""})
	}
	for op := api.OpClz; op <= api.OpRotr; op++ {
		out = append(out, row{op, ""})
	}
	return out
}

// rowOf finds an operation's row.
func rowOf(op int) (row, bool) {
	for _, r := range table() {
		if r.op == op {
			return r, true
		}
	}
	return row{}, false
}

// rows are the rows by their operations: the table, for those who ask often.
var rows = func() (out [256]*row) {
	for op := range out {
		if r, is := rowOf(op); is {
			out[op] = &r
		}
	}
	return out
}()

// writeList is what the chapter says of instructions' bytes, without their end.
func writeList(l []api.Instr) []byte {
	var b []byte
	for _, i := range l {
		b = append(b, byte(i.Op))
		for _, letter := range rows[i.Op].follows {
			switch letter {
			case 'R':
				b = append(b, []byte{64, 127}[i.Results])
			case 'T':
				b = append(b, leb.PutU(uint32(len(i.Tags)))...)
				for _, n := range i.Tags {
					b = append(b, leb.PutU(n)...)
				}
			case 'A':
				b = append(b, leb.PutU(i.A)...)
			case 'B':
				b = append(b, leb.PutU(i.B)...)
			case 'N':
				b = append(b, leb.PutS(i.N)...)
			case '0':
				b = append(b, 0)
			case 'L':
				b = append(b, writeList(i.L)...)
				if len(i.E) != 0 {
					b = append(b, 5)
					b = append(b, writeList(i.E)...)
				}
				b = append(b, 11)
			}
		}
	}
	return b
}

// reading is P6.2 and P6.3, said another way: a list in a list is read by a call, and a fault is thrown.
type reading struct {
	b     []byte
	at    int
	count int
}

func (r *reading) next() byte {
	if r.at >= len(r.b) {
		panic(faultAt(api.ErrBytes, len(r.b)))
	}
	r.at++
	return r.b[r.at-1]
}

// tag reads a byte that must be among some.
func (r *reading) tag(some string) byte {
	c := r.next()
	if strings.IndexByte(some, c) < 0 {
		panic(faultAt(api.ErrTag, r.at-1))
	}
	return c
}

func (r *reading) number() uint32 {
	n, next, f := leb.GetU(r.b, r.at)
	if f.Err != api.OK {
		panic(f)
	}
	r.at = next
	return n
}

func (r *reading) signed() int32 {
	n, next, f := leb.GetS(r.b, r.at)
	if f.Err != api.OK {
		panic(f)
	}
	r.at = next
	return n
}

// list reads a list's instructions, which are so deep, and tells which byte has ended it: 5 may only if that is said.
func (r *reading) list(deep int, five bool) ([]api.Instr, byte) {
	var l []api.Instr
	for {
		at := r.at
		c := r.next()
		if c == 11 || c == 5 && five {
			return l, c
		}
		if rows[c] == nil {
			panic(faultAt(api.ErrOp, at))
		}
		if deep > 900 || r.count >= 262144 {
			panic(faultAt(api.ErrMany, at))
		}
		r.count++
		l = append(l, r.instr(int(c), deep))
	}
}

func (r *reading) instr(op, deep int) api.Instr {
	i := api.Instr{Op: op}
	for _, letter := range rows[op].follows {
		switch letter {
		case 'R':
			i.Results = int(r.tag("\x40\x7f") >> 5 & 1) // 64 is 010 00000, 127 is 011 11111
		case 'T':
			i.Tags = r.labels()
		case 'A':
			i.A = r.number()
		case 'B':
			i.B = r.number()
		case 'N':
			i.N = r.signed()
		case '0':
			r.tag("\x00")
		case 'L':
			var by byte
			i.L, by = r.list(deep+1, op == api.OpIf)
			if by == 5 {
				i.E, _ = r.list(deep+1, false)
			}
		}
	}
	return i
}

func (r *reading) labels() []uint32 {
	start := r.at
	n := r.number()
	if n > 16384 {
		panic(faultAt(api.ErrMany, start))
	}
	out := make([]uint32, n)
	for k := range out {
		out[k] = r.number()
	}
	return out
}

func (r *reading) code() api.Code {
	words := int64(0)
	for n := r.number(); n > 0; n-- {
		start := r.at
		words += int64(r.number())
		if words > 50000 {
			panic(faultAt(api.ErrMany, start))
		}
		r.tag("\x7f")
	}
	l, _ := r.list(1, false)
	return api.Code{Locals: int(words), L: l}
}

// begin throws what applies before anything is read.
func begin(b []byte, at int) *reading {
	if at < 0 || at > len(b) {
		panic(faultAt(api.ErrRange, 0))
	}
	return &reading{b: b, at: at}
}

func readList(b []byte, at int) (l []api.Instr, next int, f api.Fault) {
	defer catch(&f)
	r := begin(b, at)
	l, _ = r.list(1, false)
	return l, r.at, f
}

func readCode(b []byte, at int) (c api.Code, next int, f api.Fault) {
	defer catch(&f)
	r := begin(b, at)
	c = r.code()
	return c, r.at, f
}

func catch(f *api.Fault) {
	if thrown := recover(); thrown != nil {
		*f = thrown.(api.Fault)
	}
}

func faultAt(e api.Errno, at int) api.Fault { return api.Fault{Err: e, At: at} }

// same is whether lists are equal, field by field.
func same(a, b []api.Instr) bool { return slices.EqualFunc(a, b, sameInstr) }

func sameInstr(x, y api.Instr) bool {
	return x.Op == y.Op && x.Results == y.Results && x.A == y.A && x.B == y.B && x.N == y.N &&
		slices.Equal(x.Tags, y.Tags) && same(x.L, y.L) && same(x.E, y.E)
}

func sameCode(x, y api.Code) bool { return x.Locals == y.Locals && same(x.L, y.L) }

// cloned is a list in memory of its own.
func cloned(l []api.Instr) []api.Instr {
	out := slices.Clone(l)
	for k, i := range out {
		out[k].Tags, out[k].L, out[k].E = slices.Clone(i.Tags), cloned(i.L), cloned(i.E)
	}
	return out
}
