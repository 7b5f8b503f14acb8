package instr

import (
	"math"
	"slices"
	"strings"
	"testing"

	"gimlet/api"
)

// only is the list of a single instruction.
func only(i api.Instr) []api.Instr { return []api.Instr{i} }

func nop() api.Instr { return api.Instr{Op: api.OpNop} }

func nops(n int) []api.Instr { return slices.Repeat(only(nop()), n) }

func block(l []api.Instr) api.Instr { return api.Instr{Op: api.OpBlock, L: l} }

// brTable has so many labels ahead of its last one.
func brTable(labels int) api.Instr {
	return api.Instr{Op: api.OpBrTable, Tags: make([]uint32, labels)}
}

// wraps are the ways in which an instruction may have others in it.
func wraps() []func([]api.Instr) api.Instr {
	return []func([]api.Instr) api.Instr{
		block,
		func(l []api.Instr) api.Instr { return api.Instr{Op: api.OpLoop, Results: 1, L: l} },
		func(l []api.Instr) api.Instr { return api.Instr{Op: api.OpIf, L: l} },
		func(l []api.Instr) api.Instr { return api.Instr{Op: api.OpIf, Results: 1, E: l} },
		func(l []api.Instr) api.Instr { return api.Instr{Op: api.OpIf, L: nops(1), E: l} },
		func(l []api.Instr) api.Instr { return api.Instr{Op: api.OpIf, L: l, E: nops(2)} },
	}
}

// nest puts an instruction into n others, from the wrap k on by turns (step 1), or all of the same kind (step 0).
func nest(i api.Instr, n, k, step int) []api.Instr {
	l, ways := only(i), wraps()
	for range n {
		l = only(ways[k%len(ways)](l))
		k += step
	}
	return l
}

func checkErr(t *testing.T, l []api.Instr, want api.Errno) {
	t.Helper()
	if e := Check(l); e != want {
		t.Errorf("Check = %d; want %d", e, want)
	}
}

func checkSizes(t *testing.T, l []api.Instr, count, deep int) {
	t.Helper()
	if n, d := Count(l), Deep(l); n != count || d != deep {
		t.Errorf("Count, Deep = %d, %d; want %d, %d", n, d, count, deep)
	}
}

// setting sets one field; the letter is the one by which a row tells that it is used.
type setting struct {
	letter string
	set    func(*api.Instr)
}

func settings() []setting {
	return []setting{
		{"R", func(i *api.Instr) { i.Results = 1 }},
		{"A", func(i *api.Instr) { i.A = 1 }},
		{"A", func(i *api.Instr) { i.A = 1 << 31 }},
		{"A", func(i *api.Instr) { i.A = math.MaxUint32 }},
		{"B", func(i *api.Instr) { i.B = 1 }},
		{"B", func(i *api.Instr) { i.B = 1 << 31 }},
		{"B", func(i *api.Instr) { i.B = math.MaxUint32 }},
		{"N", func(i *api.Instr) { i.N = 1 }},
		{"N", func(i *api.Instr) { i.N = -1 }},
		{"N", func(i *api.Instr) { i.N = math.MinInt32 }},
		{"N", func(i *api.Instr) { i.N = math.MaxInt32 }},
		{"T", func(i *api.Instr) { i.Tags = []uint32{0} }},
		{"T", func(i *api.Instr) { i.Tags = []uint32{7, math.MaxUint32} }},
		{"L", func(i *api.Instr) { i.L = nops(1) }},
		{"L", func(i *api.Instr) { i.L = nops(3) }},
		{"E", func(i *api.Instr) { i.E = nops(1) }},
		{"E", func(i *api.Instr) { i.E = nops(3) }},
	}
}

// full is an instruction with each field that its operation uses.
func full(r row) api.Instr {
	i := api.Instr{Op: r.op}
	for _, s := range settings() {
		if strings.Contains(r.uses, s.letter) {
			s.set(&i)
		}
	}
	return i
}

func okIf(holds bool) api.Errno {
	if holds {
		return api.OK
	}
	return api.ErrArg
}

// P5.2: each field of each operation, alone and beside those that it uses.
func TestCheckFields(t *testing.T) {
	for _, r := range table() {
		checkErr(t, only(api.Instr{Op: r.op}), api.OK)
		checkErr(t, only(full(r)), api.OK)
		for _, s := range settings() {
			want := okIf(strings.Contains(r.uses, s.letter))
			alone, beside := api.Instr{Op: r.op}, full(r)
			s.set(&alone)
			s.set(&beside)
			if Check(only(alone)) != want || Check(only(beside)) != want {
				t.Errorf("Check(%s with %s) = %d, %d; want %d", r.name, s.letter, Check(only(alone)), Check(only(beside)), want)
			}
		}
	}
}

// A list that is empty, but not nil, is no field that is set.
func TestCheckEmptyFields(t *testing.T) {
	for _, r := range table() {
		checkErr(t, only(api.Instr{Op: r.op, Tags: []uint32{}, L: []api.Instr{}, E: make([]api.Instr, 0, 3)}), api.OK)
	}
}

func TestCheckResults(t *testing.T) {
	for _, r := range table() {
		for _, n := range []int{0, 1, 2, -1, 3, 255, 256, 257, 1 << 32, 1<<32 + 1, math.MinInt, math.MinInt + 1, math.MaxInt} {
			want := okIf(n == 0 || n == 1 && strings.Contains(r.uses, "R"))
			i := full(r)
			i.Results = n
			if e := Check(only(i)); e != want {
				t.Errorf("Check(%s with Results %d) = %d; want %d", r.name, n, e, want)
			}
		}
	}
}

func TestCheckStrangers(t *testing.T) {
	for _, op := range strangers() {
		if e := Check(only(api.Instr{Op: op})); e != api.ErrArg {
			t.Errorf("Check(operation %d) = %d", op, e)
		}
	}
}

// wrongs are instructions that are not valid, each by another rule.
func wrongs() []api.Instr {
	return []api.Instr{
		{Op: api.OpElse}, {Op: api.OpEnd}, {Op: -1},
		{Op: api.OpNop, A: 1}, {Op: api.OpConst, B: 1}, {Op: api.OpGet, N: 1}, {Op: api.OpBr, Tags: []uint32{0}},
		{Op: api.OpBlock, Results: 2}, {Op: api.OpIf, Results: -1}, {Op: api.OpDrop, Results: 1},
		{Op: api.OpNop, L: nops(1)}, {Op: api.OpBlock, E: nops(1)}, {Op: api.OpLoop, L: nops(1), E: nops(1)},
	}
}

// P5.2: wherever an instruction that is not valid stands.
func TestCheckAnywhere(t *testing.T) {
	for _, wrong := range wrongs() {
		for _, at := range []int{0, 1, 2} {
			checkErr(t, slices.Insert(nops(2), at, wrong), api.ErrArg)
		}
		for k := range wraps() {
			for _, n := range []int{1, 2, 7, 898} {
				checkErr(t, nest(wrong, n, k, 1), api.ErrArg)
				checkErr(t, nest(wrong, n, k, 0), api.ErrArg)
				checkErr(t, slices.Concat(nops(1), nest(nop(), 3, k, 1), nest(wrong, n, k, 1), nops(1)), api.ErrArg)
			}
		}
	}
}

// A list in an instruction that must not have one makes that instruction wrong, whatever it has.
func TestCheckUnused(t *testing.T) {
	for _, r := range table() {
		if strings.Contains(r.uses, "L") {
			continue
		}
		for _, inner := range []api.Instr{nop(), {Op: api.OpElse}} {
			checkErr(t, only(api.Instr{Op: r.op, L: only(inner)}), api.ErrArg)
			checkErr(t, only(api.Instr{Op: r.op, E: only(inner)}), api.ErrArg)
		}
	}
}

// P5.2: how many instructions there may be, in all lists together.
func TestCheckCount(t *testing.T) {
	const most = api.MaxCode
	if most != 262144 {
		t.Fatal(most)
	}
	pairs := slices.Repeat(nest(nop(), 1, 0, 0), most/2)
	for _, l := range [][]api.Instr{
		nops(most),
		pairs,
		only(block(nops(most - 1))),
		only(api.Instr{Op: api.OpIf, L: nops(most - 2), E: nops(1)}),
		only(api.Instr{Op: api.OpIf, L: nops(1), E: nops(most - 2)}),
		slices.Concat(nest(nop(), 899, 0, 0), nops(most-900)),
		slices.Concat(nops(most-900), nest(nop(), 899, 3, 0)),
	} {
		checkErr(t, l, api.OK)
		checkErr(t, append(slices.Clone(l), nop()), api.ErrMany)
		checkErr(t, slices.Concat(nops(1), l), api.ErrMany)
		if n := Count(l); n != most {
			t.Errorf("Count = %d", n)
		}
	}
	checkErr(t, only(block(nops(most))), api.ErrMany)
	checkErr(t, only(api.Instr{Op: api.OpIf, L: nops(most / 2), E: nops(most / 2)}), api.ErrMany)
	checkErr(t, append(pairs, pairs...), api.ErrMany)
}

// P5.2: how many Tags one instruction may have.
func TestCheckTags(t *testing.T) {
	const most = api.MaxItems
	if most != 16384 {
		t.Fatal(most)
	}
	checkErr(t, only(brTable(most)), api.OK)
	checkErr(t, slices.Repeat(only(brTable(most)), 3), api.OK)
	checkErr(t, only(brTable(most+1)), api.ErrMany)
	checkErr(t, []api.Instr{brTable(most + 1), nop()}, api.ErrMany)
	checkErr(t, []api.Instr{brTable(most), brTable(0), brTable(most + 1)}, api.ErrMany)
	for k := range wraps() {
		checkErr(t, nest(brTable(most), 5, k, 1), api.OK)
		checkErr(t, nest(brTable(most+1), 5, k, 1), api.ErrMany)
	}
	// A list of 16,385 instructions is no list of Tags.
	checkErr(t, nops(most+1), api.OK)
}

// P5.2: how many instructions may be nested.
func TestCheckDeep(t *testing.T) {
	const most = api.MaxLists
	if most != 900 {
		t.Fatal(most)
	}
	for k := range wraps() {
		for step := range 2 {
			for _, inner := range []api.Instr{nop(), block(nil), {Op: api.OpIf, L: []api.Instr{}}} {
				checkErr(t, nest(inner, most-1, k, step), api.OK)
				checkErr(t, nest(inner, most, k, step), api.ErrMany)
				checkErr(t, slices.Concat(nops(2), nest(inner, most, k, step), nops(2)), api.ErrMany)
			}
			checkErr(t, slices.Repeat(nest(nop(), most-1, k, step), 2), api.OK)
			if d := Deep(nest(nop(), most-1, k, step)); d != most {
				t.Errorf("Deep = %d", d)
			}
		}
	}
}

// tooMany are lists of which there is too much in one way, of valid instructions.
func tooMany() [][]api.Instr {
	return [][]api.Instr{
		nops(api.MaxCode + 1),
		only(block(nops(api.MaxCode))),
		only(brTable(api.MaxItems + 1)),
		nest(nop(), api.MaxLists, 0, 0),
		nest(nop(), api.MaxLists, 3, 0),
	}
}

// Rule 1, for P5.2: ErrArg comes ahead of ErrMany, wherever the one and the other stand.
func TestCheckOrder(t *testing.T) {
	for _, many := range tooMany() {
		checkErr(t, many, api.ErrMany)
		for _, wrong := range wrongs() {
			checkErr(t, slices.Concat(many, only(wrong)), api.ErrArg)
			checkErr(t, slices.Concat(only(wrong), many), api.ErrArg)
		}
		for k := range wraps() {
			checkErr(t, slices.Concat(many, nest(wrongs()[0], 2, k, 1)), api.ErrArg)
			checkErr(t, only(wraps()[k](slices.Concat(many, only(wrongs()[3])))), api.ErrArg)
		}
	}
	for k := range wraps() {
		checkErr(t, nest(wrongs()[0], api.MaxLists, k, 1), api.ErrArg)
		checkErr(t, nest(wrongs()[7], 2*api.MaxLists, k, 0), api.ErrArg)
	}
	// One instruction to which both apply by itself.
	i := brTable(api.MaxItems + 1)
	i.B = 1
	checkErr(t, only(i), api.ErrArg)
	checkErr(t, only(api.Instr{Op: api.OpNop, Tags: i.Tags}), api.ErrArg)
}

// forests calls f with all lists of n instructions in all, each with any lists; its operations are taken from some by turns.
func forests(n int, some []int, f func([]api.Instr)) {
	if n == 0 {
		f(nil)
		return
	}
	for first := 1; first <= n; first++ {
		for inL := range first {
			forests(inL, some, func(l []api.Instr) {
				forests(first-1-inL, some, func(e []api.Instr) {
					forests(n-first, some, func(rest []api.Instr) {
						i := api.Instr{Op: some[(n+inL)%len(some)], L: l, E: e}
						f(append(only(i), rest...))
					})
				})
			})
		}
	}
}

// readCount and readDeep are the chapter's definitions.
func readCount(l []api.Instr) int {
	if len(l) == 0 {
		return 0
	}
	return 1 + readCount(l[0].L) + readCount(l[0].E) + readCount(l[1:])
}

func readDeep(l []api.Instr) int {
	if len(l) == 0 {
		return 0
	}
	return max(1+max(readDeep(l[0].L), readDeep(l[0].E)), readDeep(l[1:]))
}

// readValid is whether all are valid, for lists of operations without other fields.
func readValid(l []api.Instr) bool {
	for _, i := range l {
		inL, inE := len(i.L) > 0, len(i.E) > 0
		switch i.Op {
		case api.OpIf:
		case api.OpBlock, api.OpLoop:
			if inE {
				return false
			}
		default:
			if inL || inE {
				return false
			}
		}
		if !readValid(i.L) || !readValid(i.E) {
			return false
		}
	}
	return true
}

// P5.2, of all small lists, valid or not.
func TestSmallLists(t *testing.T) {
	seen, valid := 0, 0
	for _, some := range [][]int{{api.OpIf}, {api.OpNop}, {api.OpLoop}, {api.OpIf, api.OpBlock, api.OpNop}, {api.OpBlock, api.OpIf, api.OpIf, api.OpLoop, api.OpAdd}} {
		for n := range 7 {
			forests(n, some, func(l []api.Instr) {
				seen++
				checkSizes(t, l, n, readDeep(l))
				if readCount(l) != n {
					t.Errorf("readCount = %d", readCount(l))
				}
				want := readValid(l)
				checkErr(t, l, okIf(want))
				if want {
					valid++
				}
			})
		}
	}
	if seen != 5*(1+1+3+12+55+273+1428) || valid < 1000 {
		t.Errorf("seen %d, valid %d", seen, valid)
	}
}

// P5.2: Count and Deep of none, of many one behind the other, of many in one another, of both lists of an If.
func TestSizes(t *testing.T) {
	checkSizes(t, nil, 0, 0)
	checkSizes(t, []api.Instr{}, 0, 0)
	checkErr(t, nil, api.OK)
	checkErr(t, []api.Instr{}, api.OK)
	for _, n := range []int{1, 2, 100, 65536, api.MaxCode, 1 << 20} {
		checkSizes(t, nops(n), n, 1)
	}
	checkSizes(t, only(block(nil)), 1, 1)
	checkSizes(t, only(api.Instr{Op: api.OpIf, L: nops(3), E: nops(4)}), 8, 2)
	checkSizes(t, only(api.Instr{Op: api.OpIf, L: nest(nop(), 3, 0, 0), E: nops(1)}), 6, 5)
	checkSizes(t, only(api.Instr{Op: api.OpIf, L: nops(1), E: nest(nop(), 3, 0, 0)}), 6, 5)
	checkSizes(t, slices.Concat(nest(nop(), 3, 3, 0), nest(nop(), 5, 2, 0), nops(1)), 4+6+1, 6)
	// Lists that an operation does not use are lists of the instruction nevertheless.
	checkSizes(t, only(api.Instr{Op: api.OpNop, L: nops(2), E: nest(nop(), 1, 0, 0)}), 5, 3)
	for k := range 4 {
		for _, n := range []int{1, 899, 900, 20000, 65535} {
			checkSizes(t, nest(nop(), n, k, 0), n+1, n+1)
		}
	}
}

// As deep as the document's bound lets parts be nested.
func TestDeepest(t *testing.T) {
	for k := range wraps() {
		l := nest(nop(), 1<<16-1, k, 0)
		checkErr(t, l, api.ErrMany)
		if Deep(l) != 1<<16 {
			t.Errorf("Deep = %d", Deep(l))
		}
		checkErr(t, nest(api.Instr{Op: api.OpElse}, 1<<16-1, k, 0), api.ErrArg)
		if ends := strings.Count(Text(l), "end;"); ends != 1<<16-1 {
			t.Errorf("Text has %d ends", ends)
		}
	}
}

// Nothing is changed, and what lies behind a list in its memory does not count.
func TestArgumentsStay(t *testing.T) {
	for _, r := range table() {
		whole := []api.Instr{full(r), {Op: api.OpElse, L: nops(1)}, {Op: -5}}
		inner := []api.Instr{nop(), {Op: api.OpElse}}
		l := []api.Instr{whole[0], block(inner[:1])}
		tags := append([]uint32{}, whole[0].Tags...)
		checkErr(t, l[:1:1], api.OK)
		checkErr(t, whole[:1], api.OK)
		checkErr(t, l, api.OK)
		if Count(whole[:1]) != Count(l)-2 || Text(whole[:1])+"block;nop;end;" != Text(l) || Deep(l) < 2 {
			t.Errorf("%s: %q, %q", r.name, Text(whole[:1]), Text(l))
		}
		if whole[1].Op != api.OpElse || whole[2].Op != -5 || inner[1].Op != api.OpElse || !slices.Equal(tags, whole[0].Tags) {
			t.Errorf("%s: changed", r.name)
		}
		if readText(l) != readText([]api.Instr{full(r), block(nops(1))}) {
			t.Errorf("%s: changed", r.name)
		}
	}
}

// samples are valid lists of many kinds.
func samples() [][]api.Instr {
	var all []api.Instr
	for _, r := range table() {
		all = append(all, full(r), api.Instr{Op: r.op})
	}
	out := [][]api.Instr{nil, all, nest(full(table()[7]), 6, 0, 1), slices.Concat(nest(nop(), 4, 2, 1), all[:6], nest(nop(), 4, 3, 1))}
	for k := range wraps() {
		out = append(out, only(wraps()[k](all)), nest(brTable(api.MaxItems), 40, k, 1))
	}
	return out
}

// checkParts holds a valid list's parts: each instruction, each list, and what is left if one of them is left out.
func checkParts(t *testing.T, l []api.Instr) {
	t.Helper()
	checkErr(t, l, api.OK)
	for k, i := range l {
		checkErr(t, only(i), api.OK)
		checkErr(t, l[:k], api.OK)
		checkErr(t, l[k:], api.OK)
		checkErr(t, slices.Delete(slices.Clone(l), k, k+1), api.OK)
		checkParts(t, i.L)
		checkParts(t, i.E)
		i.E = nil
		checkErr(t, only(i), api.OK)
		i.L = nil
		checkErr(t, only(i), api.OK)
	}
}

// P5.3: valid lists have valid parts.
func TestParts(t *testing.T) {
	for _, l := range samples() {
		checkParts(t, l)
	}
	for n := range 6 {
		forests(n, []int{api.OpIf}, func(l []api.Instr) { checkParts(t, l) })
	}
	// At the limits: of 900 nested each one within, of 262,144 all but one.
	for l := nest(nop(), api.MaxLists-1, 3, 1); len(l) > 0; l = slices.Concat(l[0].L, l[0].E) {
		checkErr(t, l[:1], api.OK)
		checkErr(t, l[0].L, api.OK)
		checkErr(t, l[0].E, api.OK)
	}
	checkErr(t, nops(api.MaxCode)[1:], api.OK)
}
