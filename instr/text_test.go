package instr

import (
	"math"
	"math/big"
	"strings"
	"testing"

	"gimlet/api"
)

func checkText(t *testing.T, l []api.Instr, want string) {
	t.Helper()
	if s := Text(l); s != want {
		t.Errorf("Text = %.200q; want %.200q", s, want)
	}
}

func decimal(n int64) string { return big.NewInt(n).String() }

// readWords are what an instruction has, by the letters of the fields that it uses.
func readWords(i api.Instr, uses string) []string {
	out := []string{""}
	for _, letter := range []string{"R", "T", "A", "B", "N"} {
		if !strings.Contains(uses, letter) {
			continue
		}
		switch letter {
		case "R":
			if i.Results == 1 {
				out = append(out, "i32")
			}
		case "T":
			for _, label := range i.Tags {
				out = append(out, decimal(int64(label)))
			}
		case "A":
			out = append(out, decimal(int64(i.A)))
		case "B":
			out = append(out, decimal(int64(i.B)))
		case "N":
			out = append(out, decimal(int64(i.N)))
		}
	}
	return out
}

// readText is the chapter's text, said another way: of each list the texts of its instructions, joined.
func readText(l []api.Instr) string {
	rows := map[int]row{}
	for _, r := range table() {
		rows[r.op] = r
	}
	return readList(l, rows)
}

func readList(l []api.Instr, rows map[int]row) string {
	var out []string
	for _, i := range l {
		r := rows[i.Op]
		out = append(out, r.name+strings.Join(readWords(i, r.uses), " ")+";")
		if !strings.Contains(r.uses, "L") {
			continue
		}
		out = append(out, readList(i.L, rows))
		if strings.Contains(r.uses, "E") && len(i.E) > 0 {
			out = append(out, "else;", readList(i.E, rows))
		}
		out = append(out, "end;")
	}
	return strings.Join(out, "")
}

// P5.2: the text of each operation, with nothing, and with all that it uses.
func TestTextOfEach(t *testing.T) {
	for _, r := range table() {
		bare := r.name + strings.Repeat(" 0", len(strings.Trim(r.uses, "RTLE"))) + ";"
		if strings.Contains(r.uses, "L") {
			bare += "end;"
		}
		checkText(t, only(api.Instr{Op: r.op}), bare)
		checkText(t, only(full(r)), readText(only(full(r))))
		for _, s := range settings() {
			i := api.Instr{Op: r.op}
			s.set(&i)
			checkText(t, only(i), readText(only(i)))
		}
	}
}

// textCase is a list of one instruction, and its text.
type textCase struct {
	i    api.Instr
	want string
}

func checkTexts(t *testing.T, l []textCase) {
	t.Helper()
	var all []api.Instr
	text := ""
	for _, c := range l {
		checkText(t, only(c.i), c.want)
		all, text = append(all, c.i), text+c.want
	}
	checkText(t, all, text)
}

// The text of each form of an instruction, written out.
func TestTextForms(t *testing.T) {
	checkText(t, nil, "")
	checkText(t, []api.Instr{}, "")
	checkTexts(t, []textCase{
		{nop(), "nop;"},
		{api.Instr{Op: api.OpUnreachable}, "unreachable;"},
		{api.Instr{Op: api.OpReturn}, "return;"},
		{api.Instr{Op: api.OpSize}, "memory.size;"},
		{api.Instr{Op: api.OpGrow}, "memory.grow;"},
		{api.Instr{Op: api.OpShrU}, "i32.shr_u;"},
		{api.Instr{Op: api.OpBr}, "br 0;"},
		{api.Instr{Op: api.OpBrIf, A: 7}, "br_if 7;"},
		{api.Instr{Op: api.OpBrTable}, "br_table 0;"},
		{api.Instr{Op: api.OpBrTable, A: 3}, "br_table 3;"},
		{api.Instr{Op: api.OpBrTable, Tags: []uint32{9}}, "br_table 9 0;"},
		{api.Instr{Op: api.OpBrTable, Tags: []uint32{0, 10, math.MaxUint32, 2}, A: 1}, "br_table 0 10 4294967295 2 1;"},
		{api.Instr{Op: api.OpCall, A: 12}, "call 12;"},
		{api.Instr{Op: api.OpIndirect, A: 1000000}, "call_indirect 1000000;"},
		{api.Instr{Op: api.OpTee, A: 1}, "local.tee 1;"},
		{api.Instr{Op: api.OpSetGlobal, A: 0}, "global.set 0;"},
		{api.Instr{Op: api.OpLoad}, "i32.load 0 0;"},
		{api.Instr{Op: api.OpLoad8U, A: 0, B: 5}, "i32.load8_u 0 5;"},
		{api.Instr{Op: api.OpStore16, A: 1, B: 0}, "i32.store16 1 0;"},
		{api.Instr{Op: api.OpStore, A: 2, B: 16}, "i32.store 2 16;"},
	})
}

// Words below 0, and at the ends of their range.
func TestTextNumbers(t *testing.T) {
	checkTexts(t, []textCase{
		{api.Instr{Op: api.OpConst}, "i32.const 0;"},
		{api.Instr{Op: api.OpConst, N: 1}, "i32.const 1;"},
		{api.Instr{Op: api.OpConst, N: -1}, "i32.const -1;"},
		{api.Instr{Op: api.OpConst, N: -10}, "i32.const -10;"},
		{api.Instr{Op: api.OpConst, N: 1000000000}, "i32.const 1000000000;"},
		{api.Instr{Op: api.OpConst, N: math.MaxInt32}, "i32.const 2147483647;"},
		{api.Instr{Op: api.OpConst, N: math.MinInt32}, "i32.const -2147483648;"},
		{api.Instr{Op: api.OpGet, A: 1 << 31}, "local.get 2147483648;"},
		{api.Instr{Op: api.OpGet, A: 1<<31 - 1}, "local.get 2147483647;"},
		{api.Instr{Op: api.OpGet, A: math.MaxUint32}, "local.get 4294967295;"},
		{api.Instr{Op: api.OpLoad, A: math.MaxUint32, B: 1 << 31}, "i32.load 4294967295 2147483648;"},
		{api.Instr{Op: api.OpStore8, A: 10, B: math.MaxUint32}, "i32.store8 10 4294967295;"},
		{api.Instr{Op: api.OpBrTable, Tags: []uint32{1 << 31}, A: math.MaxUint32}, "br_table 2147483648 4294967295;"},
	})
	for k := range 33 {
		for d := int64(-1); d <= 1; d++ {
			n := int64(1)<<k + d
			checkText(t, only(api.Instr{Op: api.OpConst, N: int32(n)}), "i32.const "+decimal(int64(int32(n)))+";")
			checkText(t, only(api.Instr{Op: api.OpConst, N: int32(-n)}), "i32.const "+decimal(int64(int32(-n)))+";")
			checkText(t, only(api.Instr{Op: api.OpBr, A: uint32(n)}), "br "+decimal(int64(uint32(n)))+";")
		}
	}
}

// Lists within, with an E that is empty, and one that is not.
func TestTextLists(t *testing.T) {
	one, two := only(nop()), []api.Instr{{Op: api.OpDrop}, {Op: api.OpConst, N: 4}}
	checkTexts(t, []textCase{
		{api.Instr{Op: api.OpBlock}, "block;end;"},
		{api.Instr{Op: api.OpBlock, Results: 1}, "block i32;end;"},
		{api.Instr{Op: api.OpBlock, L: two}, "block;drop;i32.const 4;end;"},
		{api.Instr{Op: api.OpLoop, Results: 1, L: one}, "loop i32;nop;end;"},
		{api.Instr{Op: api.OpLoop}, "loop;end;"},
		{api.Instr{Op: api.OpIf}, "if;end;"},
		{api.Instr{Op: api.OpIf, L: []api.Instr{}, E: []api.Instr{}}, "if;end;"},
		{api.Instr{Op: api.OpIf, Results: 1, L: one}, "if i32;nop;end;"},
		{api.Instr{Op: api.OpIf, L: one, E: []api.Instr{}}, "if;nop;end;"},
		{api.Instr{Op: api.OpIf, E: one}, "if;else;nop;end;"},
		{api.Instr{Op: api.OpIf, Results: 1, L: two, E: one}, "if i32;drop;i32.const 4;else;nop;end;"},
		{api.Instr{Op: api.OpIf, L: one, E: only(api.Instr{Op: api.OpIf, L: two, E: one})}, "if;nop;else;if;drop;i32.const 4;else;nop;end;end;"},
		{block(only(block(only(block(nil))))), "block;block;block;end;end;end;"},
	})
}

// What is no operation has no name; a field that an operation does not use is no part of the text.
func TestTextOfWrong(t *testing.T) {
	for _, op := range strangers() {
		checkText(t, only(api.Instr{Op: op}), ";")
	}
	checkTexts(t, []textCase{
		{api.Instr{Op: api.OpElse}, ";"},
		{api.Instr{Op: api.OpEnd}, ";"},
		{block([]api.Instr{{Op: 5}, nop(), {Op: -1}}), "block;;nop;;end;"},
		{api.Instr{Op: api.OpBlock, Results: 2}, "block;end;"},
		{api.Instr{Op: api.OpBlock, Results: -1}, "block;end;"},
		{api.Instr{Op: api.OpNop, Results: 1, A: 1, B: 1, N: 1, Tags: []uint32{1}, L: nops(1), E: nops(1)}, "nop;"},
		{api.Instr{Op: api.OpLoop, L: nops(1), E: nops(1)}, "loop;nop;end;"},
		{api.Instr{Op: api.OpConst, A: 3, N: 4}, "i32.const 4;"},
		{api.Instr{Op: api.OpGet, A: 3, N: 4, B: 5}, "local.get 3;"},
	})
}

// Of all small lists the text is the one that the chapter describes, and those of unlike valid lists are not alike.
func TestTextOfSmallLists(t *testing.T) {
	seen := map[string]int{}
	for n := range 7 {
		forests(n, []int{api.OpIf}, func(l []api.Instr) {
			s := Text(l)
			checkText(t, l, readText(l))
			seen[s]++
			if seen[s] > 1 {
				t.Errorf("%q is the text of two lists", s)
			}
		})
	}
	for _, some := range [][]int{{api.OpNop, api.OpIf}, {api.OpBlock, api.OpIf, api.OpLoop}, {api.OpIf, api.OpElse, api.OpConst}} {
		for n := range 6 {
			forests(n, some, func(l []api.Instr) { checkText(t, l, readText(l)) })
		}
	}
	for _, l := range samples() {
		checkText(t, l, readText(l))
	}
}

// As long as valid lists may be.
func TestLongText(t *testing.T) {
	checkText(t, nops(api.MaxCode), strings.Repeat("nop;", api.MaxCode))
	checkText(t, nest(nop(), 899, 0, 0), strings.Repeat("block;", 899)+"nop;"+strings.Repeat("end;", 899))
	checkText(t, nest(nop(), 899, 4, 0), strings.Repeat("if;nop;else;", 899)+"nop;"+strings.Repeat("end;", 899))
	checkText(t, only(brTable(api.MaxItems)), "br_table"+strings.Repeat(" 0", api.MaxItems+1)+";")
}
