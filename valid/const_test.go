package valid

import (
	"math"
	"slices"
	"testing"

	"gimlet/api"
)

// P11.1: a constant's word, also of numbers below 0.
func TestConstWord(t *testing.T) {
	for _, c := range []struct {
		n    int32
		want uint32
	}{
		{0, 0}, {1, 1}, {-1, 1<<32 - 1}, {-2, 1<<32 - 2}, {math.MaxInt32, 1<<31 - 1}, {math.MinInt32, 1 << 31}, {math.MinInt32 + 1, 1<<31 + 1}, {256, 256}, {-256, 1<<32 - 256}, {1 << 30, 1 << 30}, {-1 << 30, 3 << 30},
	} {
		if w, e := Const(list(word(c.n))); w != c.want || e != api.OK {
			t.Errorf("Const(%d) = %d, %v", c.n, w, e)
		}
	}
	// Lists that are empty, but not nil, are equal to those that are.
	full := api.Instr{Op: api.OpConst, N: 7, Tags: []uint32{}, L: []api.Instr{}, E: make([]api.Instr, 0, 3)}
	if w, e := Const(list(full)); w != 7 || e != api.OK {
		t.Errorf("Const(7 with empty lists) = %d, %v", w, e)
	}
}

// P11.1: whatever is not a single valid constant.
func TestConstRefused(t *testing.T) {
	deep := word(1)
	for range 1 << 16 {
		deep = block(1, deep)
	}
	for what, l := range map[string][]api.Instr{
		"nil": nil, "no instruction": {}, "two": {word(1), word(2)}, "three": words(3), "behind a nop": {op(api.OpNop), word(1)}, "ahead of a nop": {word(1), op(api.OpNop)},
		"Results": {{Op: api.OpConst, N: 1, Results: 1}}, "Results of -1": {{Op: api.OpConst, N: 1, Results: -1}}, "A": {{Op: api.OpConst, N: 1, A: 1}}, "B": {{Op: api.OpConst, N: 1, B: 1 << 31}},
		"Tags": {{Op: api.OpConst, N: 1, Tags: []uint32{0}}}, "L": {{Op: api.OpConst, N: 1, L: words(1)}}, "E": {{Op: api.OpConst, N: 1, E: nops(1)}},
		"a block with one": {block(1, word(1))}, "many": words(1 << 18), "too many": words(1<<18 + 1), "deep": {deep},
		"the lowest operation": {op(math.MinInt)}, "the highest": {op(math.MaxInt)}, "a Const and 2^32": {op(api.OpConst + 1<<32)}, "none": {op(5)}, "end": {op(api.OpEnd)},
	} {
		if w, e := Const(l); w != 0 || e != api.ErrConst {
			t.Errorf("Const(%s) = %d, %v", what, w, e)
		}
	}
	for o := -1; o <= 256; o++ {
		for _, n := range []int32{0, 5} {
			l := list(api.Instr{Op: o, N: n})
			if w, e := Const(l); o != api.OpConst && (w != 0 || e != api.ErrConst) {
				t.Errorf("Const(operation %d) = %d, %v", o, w, e)
			}
		}
	}
}

// Rule 4: what stands behind a list is no part of it, and stays.
func TestConstSpare(t *testing.T) {
	room := list(word(3), word(4), op(5))
	before := cloned(room)
	if w, e := Const(room[:1]); w != 3 || e != api.OK {
		t.Errorf("one of three: %d, %v", w, e)
	}
	if w, e := Const(room[1:2:2]); w != 4 || e != api.OK {
		t.Errorf("the second of three: %d, %v", w, e)
	}
	if w, e := Const(room[:0]); w != 0 || e != api.ErrConst {
		t.Errorf("none of three: %d, %v", w, e)
	}
	if !slices.EqualFunc(room, before, sameInstr) {
		t.Errorf("Const changed %v", room)
	}
}
