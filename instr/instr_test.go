package instr

import (
	"math"
	"strings"
	"testing"

	"gimlet/api"
)

// row is a row of the chapter's table: the words that are taken and left, and the power of two for an Align, as texts ("" where there is none); and which fields are used, by a letter each: Results, A, B, N, Tags, L, E.
type row struct {
	op    int
	name  string
	shape string
	align string
	uses  string
}

// table is the chapter's table, in its order.
func table() []row {
	out := []row{
		{api.OpUnreachable, "unreachable", "", "", ""},
		{api.OpNop, "nop", "0 0", "", ""},
		{api.OpBlock, "block", "", "", "RL"},
		{api.OpLoop, "loop", "", "", "RL"},
		{api.OpIf, "if", "", "", "RLE"},
		{api.OpBr, "br", "", "", "A"},
		{api.OpBrIf, "br_if", "", "", "A"},
		{api.OpBrTable, "br_table", "", "", "TA"},
		{api.OpReturn, "return", "", "", ""},
		{api.OpCall, "call", "", "", "A"},
		{api.OpIndirect, "call_indirect", "", "", "A"},
		{api.OpDrop, "drop", "1 0", "", ""},
		{api.OpSelect, "select", "3 1", "", ""},
		{api.OpGet, "local.get", "0 1", "", "A"},
		{api.OpSet, "local.set", "1 0", "", "A"},
		{api.OpTee, "local.tee", "1 1", "", "A"},
		{api.OpGetGlobal, "global.get", "0 1", "", "A"},
		{api.OpSetGlobal, "global.set", "1 0", "", "A"},
		{api.OpLoad, "i32.load", "1 1", "2", "AB"},
		{api.OpLoad8S, "i32.load8_s", "1 1", "0", "AB"},
		{api.OpLoad8U, "i32.load8_u", "1 1", "0", "AB"},
		{api.OpLoad16S, "i32.load16_s", "1 1", "1", "AB"},
		{api.OpLoad16U, "i32.load16_u", "1 1", "1", "AB"},
		{api.OpStore, "i32.store", "2 0", "2", "AB"},
		{api.OpStore8, "i32.store8", "2 0", "0", "AB"},
		{api.OpStore16, "i32.store16", "2 0", "1", "AB"},
		{api.OpSize, "memory.size", "0 1", "", ""},
		{api.OpGrow, "memory.grow", "1 1", "", ""},
		{api.OpConst, "i32.const", "0 1", "", "N"},
	}
	return append(out, numbers()...)
}

// numbers are the rows of the operations of num.
func numbers() []row {
	out := []row{
		{op: api.OpEqz, name: "eqz"}, {op: api.OpEq, name: "eq"}, {op: api.OpNe, name: "ne"},
		{op: api.OpLtS, name: "lt_s"}, {op: api.OpLtU, name: "lt_u"}, {op: api.OpGtS, name: "gt_s"}, {op: api.OpGtU, name: "gt_u"},
		{op: api.OpLeS, name: "le_s"}, {op: api.OpLeU, name: "le_u"}, {op: api.OpGeS, name: "ge_s"}, {op: api.OpGeU, name: "ge_u"},
		{op: api.OpClz, name: "clz"}, {op: api.OpCtz, name: "ctz"}, {op: api.OpPopcnt, name: "popcnt"},
		{op: api.OpAdd, name: "add"}, {op: api.OpSub, name: "sub"}, {op: api.OpMul, name: "mul"},
		{op: api.OpDivS, name: "div_s"}, {op: api.OpDivU, name: "div_u"}, {op: api.OpRemS, name: "rem_s"}, {op: api.OpRemU, name: "rem_u"},
		{op: api.OpAnd, name: "and"}, {op: api.OpOr, name: "or"}, {op: api.OpXor, name: "xor"},
		{op: api.OpShl, name: "shl"}, {op: api.OpShrS, name: "shr_s"}, {op: api.OpShrU, name: "shr_u"},
		{op: api.OpRotl, name: "rotl"}, {op: api.OpRotr, name: "rotr"},
	}
	for k, r := range out {
		out[k].shape = "2 1"
		if strings.Contains(" eqz clz ctz popcnt ", " "+r.name+" ") {
			out[k].shape = "1 1"
		}
		out[k].name = "i32." + r.name
	}
	return out
}

// strangers are numbers that are no operation: all between and around them, some far off, and those that would be one if they were cut to fewer bits, or their sign were lost.
func strangers() []int {
	there := map[int]int{}
	for _, r := range table() {
		there[r.op] = 1
	}
	far := []int{math.MinInt, math.MinInt + 1, math.MinInt32, math.MaxInt32, 1 << 32, math.MaxInt - 1, math.MaxInt}
	for op := -700; op < 1500; op++ {
		far = append(far, op)
	}
	for _, r := range table() {
		far = append(far, r.op+1<<8, r.op-1<<8, r.op+1<<16, r.op+1<<32, r.op-1<<32, r.op+math.MinInt)
	}
	var out []int
	for _, op := range far {
		if there[op] == 0 {
			out = append(out, op)
		}
	}
	return out
}

// digit is the number that a text shows at a place; 0 where it has none.
func digit(s string, at int) int {
	if at >= len(s) {
		return 0
	}
	return int(s[at] - '0')
}

func checkRow(t *testing.T, r row) {
	t.Helper()
	if s := Name(r.op); s != r.name {
		t.Errorf("Name(%d) = %q; want %q", r.op, s, r.name)
	}
	takes, leaves, is := Shape(r.op)
	if takes != digit(r.shape, 0) || leaves != digit(r.shape, 2) || is != (r.shape != "") {
		t.Errorf("Shape(%d) = %d, %d, %v; want %q", r.op, takes, leaves, is, r.shape)
	}
	n, is := Align(r.op)
	if int64(n) != int64(digit(r.align, 0)) || is != (r.align != "") {
		t.Errorf("Align(%d) = %d, %v; want %q", r.op, n, is, r.align)
	}
}

// P5.1, of all operations: 29 of num, and 29 others, each once.
func TestOperations(t *testing.T) {
	if len(table()) != 58 {
		t.Fatalf("the table has %d rows", len(table()))
	}
	seen, named := map[int]int{}, map[string]int{}
	for _, r := range table() {
		checkRow(t, r)
		seen[r.op]++
		named[r.name]++
		if seen[r.op] > 1 || named[r.name] > 1 {
			t.Errorf("%s is there twice", r.name)
		}
	}
}

// P5.1, of what is no operation.
func TestStrangers(t *testing.T) {
	for _, op := range strangers() {
		checkRow(t, row{op: op})
	}
	for _, op := range []int{api.OpElse, api.OpEnd, 6, 10, 0x12, 0x19, 0x1c, 0x1f, 0x25, 0x27, 0x29, 0x2b, 0x30, 0x35, 0x37, 0x39, 0x3c, 0x3e, 0x42, 0x44, 0x50, 0x66, 0x79} {
		checkRow(t, row{op: op})
	}
}

// P5.3: an instruction that neither has lists nor leads elsewhere has a shape; so does a load or store.
func TestPlainHaveShapes(t *testing.T) {
	leads := map[string]int{"unreachable": 1, "block": 1, "loop": 1, "if": 1, "br": 1, "br_if": 1, "br_table": 1, "return": 1, "call": 1, "call_indirect": 1}
	shaped := 0
	for op := -300; op < 600; op++ {
		name := Name(op)
		takes, leaves, is := Shape(op)
		if is != (name != "" && leads[name] == 0) {
			t.Errorf("Shape(%d) (%s): %v", op, name, is)
		}
		if takes < 0 || takes > 3 || leaves < 0 || leaves > 1 {
			t.Errorf("Shape(%d) (%s) = %d, %d", op, name, takes, leaves)
		}
		if _, aligned := Align(op); aligned && !is {
			t.Errorf("%s has an alignment, but no shape", name)
		}
		if is {
			shaped++
		}
	}
	if shaped != 48 {
		t.Errorf("%d operations have a shape", shaped)
	}
}

// The chapter's examples.
func TestExamples(t *testing.T) {
	checkRow(t, row{api.OpIndirect, "call_indirect", "", "", ""})
	checkRow(t, row{api.OpLeU, "i32.le_u", "2 1", "", ""})
	checkRow(t, row{op: 5})
	checkRow(t, row{api.OpSelect, "select", "3 1", "", ""})
	checkRow(t, row{api.OpClz, "i32.clz", "1 1", "", ""})
	checkRow(t, row{api.OpCall, "call", "", "", ""})
	checkRow(t, row{api.OpStore16, "i32.store16", "2 0", "1", ""})

	checkText(t, only(api.Instr{Op: api.OpBlock, Results: 1, L: only(api.Instr{Op: api.OpConst, N: -1})}), "block i32;i32.const -1;end;")
	checkText(t, only(api.Instr{Op: api.OpIf, L: only(api.Instr{Op: api.OpGet, A: 3}), E: only(nop())}), "if;local.get 3;else;nop;end;")

	checkErr(t, only(api.Instr{Op: api.OpNop, A: 1}), api.ErrArg)
	checkErr(t, only(api.Instr{Op: api.OpLoop, E: only(nop())}), api.ErrArg)
	branch := only(api.Instr{Op: api.OpIf, L: nops(2), E: nops(1)})
	checkErr(t, branch, api.OK)
	checkSizes(t, branch, 4, 2)
}
