package body

import (
	"bytes"
	"math"
	"slices"
	"testing"

	"gimlet/api"
	"gimlet/instr"
)

func checkPut(t *testing.T, l []api.Instr, want []byte, wantErr api.Errno) {
	t.Helper()
	if b, e := Put(l); !bytes.Equal(b, want) || e != wantErr || e != api.OK && b != nil {
		t.Fatalf("Put(%.200s) = %s, %d; want %s, %d", instr.Text(l), show(b), e, show(want), wantErr)
	}
}

func checkPutCode(t *testing.T, c api.Code, want []byte, wantErr api.Errno) {
	t.Helper()
	if b, e := PutCode(c); !bytes.Equal(b, want) || e != wantErr || e != api.OK && b != nil {
		t.Fatalf("PutCode(%d, %.200s) = %s, %d; want %s, %d", c.Locals, instr.Text(c.L), show(b), e, show(want), wantErr)
	}
}

// P6.1, of each operation that has something behind it: what the chapter's table says, in numbers.
func TestPutEach(t *testing.T) {
	for _, p := range []struct {
		i    api.Instr
		want []byte
	}{
		{api.Instr{Op: api.OpBlock}, []byte{2, 64, 11}},
		{api.Instr{Op: api.OpBlock, Results: 1}, []byte{2, 127, 11}},
		{api.Instr{Op: api.OpBlock, L: nops(2)}, []byte{2, 64, 1, 1, 11}},
		{api.Instr{Op: api.OpLoop}, []byte{3, 64, 11}},
		{api.Instr{Op: api.OpLoop, Results: 1, L: nops(1)}, []byte{3, 127, 1, 11}},
		{api.Instr{Op: api.OpIf}, []byte{4, 64, 11}},
		{api.Instr{Op: api.OpIf, Results: 1, L: nops(1)}, []byte{4, 127, 1, 11}},
		{api.Instr{Op: api.OpIf, E: nops(1)}, []byte{4, 64, 5, 1, 11}},
		{api.Instr{Op: api.OpIf, L: nops(1), E: nops(2)}, []byte{4, 64, 1, 5, 1, 1, 11}},
		{api.Instr{Op: api.OpIf, E: []api.Instr{}}, []byte{4, 64, 11}},
		{api.Instr{Op: api.OpIf, L: only(api.Instr{Op: api.OpIf, E: nops(1)}), E: only(api.Instr{Op: api.OpLoop})}, []byte{4, 64, 4, 64, 5, 1, 11, 5, 3, 64, 11, 11}},
		{api.Instr{Op: api.OpBr, A: 5}, []byte{12, 5}},
		{api.Instr{Op: api.OpBr, A: 64}, []byte{12, 64}},
		{api.Instr{Op: api.OpBrIf, A: 127}, []byte{13, 127}},
		{api.Instr{Op: api.OpBrIf, A: 128}, []byte{13, 128, 1}},
		{api.Instr{Op: api.OpBrTable}, []byte{14, 0, 0}},
		{api.Instr{Op: api.OpBrTable, A: 7}, []byte{14, 0, 7}},
		{api.Instr{Op: api.OpBrTable, Tags: []uint32{3, 300, 0}, A: 9}, []byte{14, 3, 3, 172, 2, 0, 9}},
		{api.Instr{Op: api.OpCall, A: math.MaxUint32}, []byte{16, 255, 255, 255, 255, 15}},
		{api.Instr{Op: api.OpIndirect, A: 4}, []byte{17, 4, 0}},
		{api.Instr{Op: api.OpIndirect, A: 1 << 31}, []byte{17, 128, 128, 128, 128, 8, 0}},
		{api.Instr{Op: api.OpGet}, []byte{32, 0}},
		{api.Instr{Op: api.OpSet, A: 1}, []byte{33, 1}},
		{api.Instr{Op: api.OpTee, A: 2}, []byte{34, 2}},
		{api.Instr{Op: api.OpGetGlobal, A: 3}, []byte{35, 3}},
		{api.Instr{Op: api.OpSetGlobal, A: 4}, []byte{36, 4}},
		{api.Instr{Op: api.OpLoad, A: 2, B: 1 << 14}, []byte{40, 2, 128, 128, 1}},
		{api.Instr{Op: api.OpLoad8S, B: 1}, []byte{44, 0, 1}},
		{api.Instr{Op: api.OpLoad8U, A: 1}, []byte{45, 1, 0}},
		{api.Instr{Op: api.OpLoad16S, A: 1, B: 200}, []byte{46, 1, 200, 1}},
		{api.Instr{Op: api.OpLoad16U, A: 300}, []byte{47, 172, 2, 0}},
		{api.Instr{Op: api.OpStore, A: 2, B: 3}, []byte{54, 2, 3}},
		{api.Instr{Op: api.OpStore8, A: 4, B: 5}, []byte{58, 4, 5}},
		{api.Instr{Op: api.OpStore16, A: 6, B: 7}, []byte{59, 6, 7}},
		{api.Instr{Op: api.OpSize}, []byte{63, 0}},
		{api.Instr{Op: api.OpGrow}, []byte{64, 0}},
		{api.Instr{Op: api.OpConst}, []byte{65, 0}},
		{api.Instr{Op: api.OpConst, N: 63}, []byte{65, 63}},
		{api.Instr{Op: api.OpConst, N: 64}, []byte{65, 192, 0}},
		{api.Instr{Op: api.OpConst, N: -64}, []byte{65, 64}},
		{api.Instr{Op: api.OpConst, N: -65}, []byte{65, 191, 127}},
		{api.Instr{Op: api.OpConst, N: math.MaxInt32}, []byte{65, 255, 255, 255, 255, 7}},
		{api.Instr{Op: api.OpConst, N: math.MinInt32}, []byte{65, 128, 128, 128, 128, 120}},
	} {
		end := []byte{11}
		checkPut(t, only(p.i), append(p.want, end...), api.OK)
		checkPut(t, []api.Instr{nop(), p.i, {Op: api.OpDrop}}, slices.Concat([]byte{1}, p.want, []byte{26}, end), api.OK)
		checkPut(t, only(api.Instr{Op: api.OpLoop, L: only(p.i)}), slices.Concat([]byte{3, 64}, p.want, end, end), api.OK)
	}
}

// P6.1, of the operations that have nothing behind them.
func TestPutPlain(t *testing.T) {
	plain := []int{0, 1, 15, 26, 27}
	for op := 0x45; op <= 0x4f; op++ {
		plain = append(plain, op)
	}
	for op := 0x67; op <= 0x78; op++ {
		plain = append(plain, op)
	}
	all, want := []api.Instr{}, []byte{}
	for _, op := range plain {
		all, want = append(all, api.Instr{Op: op}), append(want, byte(op))
		checkPut(t, only(api.Instr{Op: op}), []byte{byte(op), 11}, api.OK)
	}
	checkPut(t, all, append(want, 11), api.OK)
	behind := 0
	for _, r := range table() {
		if r.follows != "" {
			behind++
		}
	}
	if behind+len(plain) != 58 || len(table()) != 58 {
		t.Error(behind, len(plain), len(table()))
	}
}

func TestPutNone(t *testing.T) {
	checkPut(t, nil, []byte{11}, api.OK)
	checkPut(t, []api.Instr{}, []byte{11}, api.OK)
	checkPutCode(t, api.Code{}, []byte{0, 11}, api.OK)
	checkPutCode(t, api.Code{L: []api.Instr{}}, []byte{0, 11}, api.OK)
}

// P6.1, of edges in all fields, held against the second reading of the table.
func TestPutVariants(t *testing.T) {
	for _, i := range everyVariant() {
		checkPut(t, only(i), append(writeList(only(i)), 11), api.OK)
	}
	for _, l := range samples() {
		checkPut(t, l, append(writeList(l), 11), api.OK)
	}
}

// invalid are lists that instr.Check refuses with ErrArg, tooMany those with ErrMany.
func invalid() [][]api.Instr {
	out := [][]api.Instr{
		only(api.Instr{Op: api.OpElse}), only(api.Instr{Op: api.OpEnd}), only(api.Instr{Op: 6}), only(api.Instr{Op: -1}), only(api.Instr{Op: 256}), only(api.Instr{Op: 257}), only(api.Instr{Op: math.MinInt}), only(api.Instr{Op: math.MaxInt}),
		only(api.Instr{Op: api.OpNop, A: 1}), only(api.Instr{Op: api.OpConst, B: 1}), only(api.Instr{Op: api.OpGet, N: 1}), only(api.Instr{Op: api.OpBr, Tags: []uint32{0}}),
		only(api.Instr{Op: api.OpSize, A: 1}), only(api.Instr{Op: api.OpIndirect, B: 1}), only(api.Instr{Op: api.OpBlock, Results: 2}), only(api.Instr{Op: api.OpIf, Results: -1}), only(api.Instr{Op: api.OpDrop, Results: 1}),
		only(api.Instr{Op: api.OpNop, L: nops(1)}), only(api.Instr{Op: api.OpBlock, E: nops(1)}), only(api.Instr{Op: api.OpLoop, L: nops(1), E: nops(1)}),
	}
	for k := range wraps() {
		out = append(out, nest(api.Instr{Op: 6}, 3, k, 1), slices.Concat(nops(3), nest(api.Instr{Op: api.OpAdd, A: 2}, 1, k, 1), nops(1)))
	}
	return append(out, nest(api.Instr{Op: 6}, 950, 0, 1), append(nops(api.MaxCode+1), api.Instr{Op: 6}))
}

func tooMany() [][]api.Instr {
	out := [][]api.Instr{
		nops(api.MaxCode + 1),
		only(api.Instr{Op: api.OpBlock, L: nops(api.MaxCode)}),
		only(brTable(api.MaxItems + 1)),
		append(nops(1), brTable(api.MaxItems+1)),
	}
	for k := range wraps() {
		out = append(out, nest(nop(), api.MaxLists, k, 0), nest(nop(), api.MaxLists, k, 1), nest(brTable(api.MaxItems+1), 2, k, 0))
	}
	return append(out, nest(nop(), 1<<16-1, 0, 0))
}

// P6.1: what instr.Check refuses, with its error.
func TestPutRefused(t *testing.T) {
	for _, l := range invalid() {
		checkPut(t, l, nil, api.ErrArg)
		checkPutCode(t, api.Code{Locals: 1, L: l}, nil, api.ErrArg)
	}
	for _, l := range tooMany() {
		checkPut(t, l, nil, api.ErrMany)
		checkPutCode(t, api.Code{Locals: api.MaxLocals, L: l}, nil, api.ErrMany)
		checkPutCode(t, api.Code{L: l}, nil, api.ErrMany)
	}
}

// P6.1, at the limits of instr.Check.
func TestPutLimits(t *testing.T) {
	for _, l := range [][]api.Instr{
		nops(api.MaxCode),
		only(brTable(api.MaxItems)),
		nest(nop(), api.MaxLists-1, 0, 1),
		nest(nop(), api.MaxLists-1, 3, 0),
	} {
		checkPut(t, l, append(writeList(l), 11), api.OK)
		checkPutCode(t, api.Code{L: l}, slices.Concat([]byte{0}, writeList(l), []byte{11}), api.OK)
	}
}

// P6.1, of Locals.
func TestPutCodeLocals(t *testing.T) {
	for _, p := range []struct {
		locals int
		want   []byte
	}{
		{0, []byte{0}},
		{1, []byte{1, 1, 127}},
		{2, []byte{1, 2, 127}},
		{127, []byte{1, 127, 127}},
		{128, []byte{1, 128, 1, 127}},
		{16383, []byte{1, 255, 127, 127}},
		{16384, []byte{1, 128, 128, 1, 127}},
		{49999, []byte{1, 207, 134, 3, 127}},
		{50000, []byte{1, 208, 134, 3, 127}},
	} {
		checkPutCode(t, api.Code{Locals: p.locals}, append(p.want, 11), api.OK)
		for _, l := range samples() {
			checkPutCode(t, api.Code{Locals: p.locals, L: l}, slices.Concat(p.want, writeList(l), []byte{11}), api.OK)
		}
	}
	refused := []int{-1, 50001, -2, -50000, 50002, 65536, 1 << 32, 1<<32 + 1, 1<<32 - 1, math.MinInt, math.MinInt + 1, math.MaxInt, math.MinInt32, math.MaxInt32}
	for _, locals := range refused {
		checkPutCode(t, api.Code{Locals: locals}, nil, api.ErrArg)
		checkPutCode(t, api.Code{Locals: locals, L: nops(1)}, nil, api.ErrArg)
	}
	// ErrArg comes ahead of the error of instr.Check.
	for _, l := range slices.Concat(invalid(), tooMany()) {
		checkPutCode(t, api.Code{Locals: -1, L: l}, nil, api.ErrArg)
		checkPutCode(t, api.Code{Locals: 50001, L: l}, nil, api.ErrArg)
	}
}

// Rule 4: what is answered is new memory, and what is given stays as it was.
func TestPutMemory(t *testing.T) {
	for _, l := range samples() {
		was := cloned(l)
		a, _ := Put(l)
		b, _ := Put(l)
		want := slices.Clone(a)
		for k := range a[:cap(a)] {
			a[:cap(a)][k] = 99
		}
		if !bytes.Equal(b, want) || !same(l, was) {
			t.Errorf("Put(%.200s) shares memory", instr.Text(l))
		}
		c, _ := PutCode(api.Code{Locals: 7, L: l})
		d, _ := PutCode(api.Code{Locals: 7, L: l})
		want = slices.Clone(c)
		for k := range c[:cap(c)] {
			c[:cap(c)][k] = 99
		}
		if !bytes.Equal(d, want) || !same(l, was) {
			t.Errorf("PutCode(%.200s) shares memory", instr.Text(l))
		}
	}
	// What lies behind a list in its memory is no part of it, and stays.
	whole := []api.Instr{nop(), {Op: api.OpIf, L: nops(2)[:1], Tags: []uint32{}}, {Op: 6}}
	checkPut(t, whole[:2], []byte{1, 4, 64, 1, 11, 11}, api.OK)
	if whole[2].Op != 6 {
		t.Error("changed")
	}
}
