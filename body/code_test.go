package body

import (
	"bytes"
	"math"
	"slices"
	"testing"

	"gimlet/api"
	"gimlet/instr"
	"gimlet/leb"
)

// checkGetCode holds GetCode against the second reading, and what is read against P6.4.
func checkGetCode(t *testing.T, b []byte, at int) {
	t.Helper()
	want, wantNext, wantFault := readCode(b, at)
	c, next, f := GetCode(b, at)
	if !sameCode(c, want) || next != wantNext || f != wantFault {
		t.Fatalf("GetCode(%s, %d) = %d %.200s, %d, %v; want %d %.200s, %d, %v", show(b), at, c.Locals, instr.Text(c.L), next, f, want.Locals, instr.Text(want.L), wantNext, wantFault)
	}
	if f.Err != api.OK {
		return
	}
	again, e := PutCode(c)
	back, end, f := GetCode(again, 0)
	if e != api.OK || len(again) > next-at || !sameCode(back, c) || end != len(again) || f.Err != api.OK {
		t.Fatalf("GetCode(%s, %d): PutCode = %s, %d, read as %v, %d, %v", show(b), at, show(again), e, back, end, f)
	}
}

// checkCodeFault holds that a fault is told, and nothing else, whatever stands in front or, if the fault is not at the end, follows.
func checkCodeFault(t *testing.T, b []byte, e api.Errno, at int) {
	t.Helper()
	try := func(b []byte, from, at int) {
		t.Helper()
		if c, next, f := GetCode(b, from); c.L != nil || c.Locals != 0 || next != 0 || f != faultAt(e, at) {
			t.Fatalf("GetCode(%s, %d) = %d %.200s, %d, %v; want %v", show(b), from, c.Locals, instr.Text(c.L), next, f, faultAt(e, at))
		}
	}
	try(b, 0, at)
	for _, front := range [][]byte{{0}, {1, 1, 127}} {
		try(slices.Concat(front, b), len(front), len(front)+at)
	}
	if at == len(b) {
		return
	}
	for _, behind := range [][]byte{{11}, {6}, {128, 128, 255, 255, 255}} {
		try(slices.Concat(b, behind), 0, at)
	}
}

func checkReadCode(t *testing.T, b []byte, want api.Code) {
	t.Helper()
	for _, front := range [][]byte{nil, {0}, {1, 1, 127}, {255, 255}} {
		for _, behind := range [][]byte{nil, {11}, {5}, {0, 11}, {255, 1}} {
			all := slices.Concat(front, b, behind)
			c, next, f := GetCode(all, len(front))
			if !sameCode(c, want) || next != len(front)+len(b) || f != (api.Fault{}) {
				t.Fatalf("GetCode(%s, %d) = %v, %d, %v; want %v", show(all), len(front), c, next, f, want)
			}
		}
	}
	checkGetCode(t, b, 0)
}

// groups returns the bytes of groups with so many words each.
func groups(words ...uint32) []byte {
	b := leb.PutU(uint32(len(words)))
	for _, n := range words {
		b = append(append(b, leb.PutU(n)...), 127)
	}
	return b
}

// P6.3, of all short lists of edge bytes.
func TestGetCodeShort(t *testing.T) {
	everyBytes([]byte{0, 1, 2, 3, 5, 11, 64, 126, 127, 128, 255}, 5, func(b []byte) { checkGetCode(t, b, 0) })
	everyBytes([]byte{0, 1, 2, 11, 127, 129}, 6, func(b []byte) { checkGetCode(t, b, 0) })
	everyBytes([]byte{0, 1, 4, 11, 127}, 5, func(b []byte) {
		for at := range b {
			checkGetCode(t, b, at)
		}
	})
	everyPieces([][]byte{{1}, {2}, {208, 134, 3, 127}, {168, 195, 1, 127}, {0, 127}, {1, 127}, {127}, {11}}, 5, func(b []byte) { checkGetCode(t, b, 0) })
}

// P6.3, of code that is right but for one byte, or that ends too early.
func TestGetCodeSpoilt(t *testing.T) {
	for k, l := range samples() {
		fronts := [][]byte{groups(), groups(5), groups(0, 300, 49000), groups(1, 2, 3, 4)}
		b := slices.Concat(fronts[k%len(fronts)], writeList(l), []byte{11})
		for at := range b {
			checkCodeFault(t, b[:at], api.ErrBytes, at)
		}
		if len(b) > 200 {
			b = slices.Concat(b[:100], []byte{11})
		}
		spoil(b, func(x []byte) { checkGetCode(t, x, 0) })
	}
}

// P6.3, of groups: none, several, with no words, and with as many words as there may be.
func TestGetCodeGroups(t *testing.T) {
	list, l := []byte{1, 11}, nops(1)
	for _, p := range []struct {
		groups []byte
		words  int
	}{
		{groups(), 0}, {groups(1), 1}, {groups(0), 0}, {groups(0, 0, 0), 0}, {groups(1, 2), 3}, {groups(0, 7, 0), 7}, {groups(3, 0, 4), 7},
		{groups(50000), 50000}, {groups(49999), 49999}, {groups(49999, 1), 50000}, {groups(1, 49999), 50000}, {groups(25000, 25000), 50000},
		{groups(50000, 0), 50000}, {groups(0, 50000), 50000}, {groups(50000, 0, 0, 0), 50000}, {groups(10000, 10000, 10000, 10000, 10000), 50000},
		{groups(make([]uint32, 127)...), 0}, {groups(make([]uint32, 128)...), 0}, {groups(make([]uint32, 60000)...), 0},
		{groups(slices.Repeat([]uint32{1}, 50000)...), 50000}, {groups(slices.Repeat([]uint32{1, 0}, 50000)...), 50000},
	} {
		c, next, f := GetCode(slices.Concat(p.groups, list), 0)
		if !sameCode(c, api.Code{Locals: p.words, L: l}) || next != len(p.groups)+2 || f != (api.Fault{}) {
			t.Errorf("GetCode(%s) = %v, %d, %v; want %d", show(p.groups), c, next, f, p.words)
		}
		checkReadCode(t, slices.Concat(p.groups, list), api.Code{Locals: p.words, L: l})
		checkReadCode(t, slices.Concat(p.groups, []byte{11}), api.Code{Locals: p.words})
	}
}

// P6.3: more words by then than there may be, at the place where the group's number begins.
func TestGetCodeMany(t *testing.T) {
	for _, p := range []struct{ before, last []uint32 }{
		{nil, []uint32{50001, 50002, 65536, 1 << 31, 1<<31 - 1, math.MaxUint32, math.MaxUint32 - 50000}},
		{[]uint32{50000}, []uint32{1, 2, 50000, math.MaxUint32, math.MaxUint32 - 49999, math.MaxUint32 - 50000}},
		{[]uint32{1}, []uint32{50000, 50001, math.MaxUint32, math.MaxUint32 - 1}},
		{[]uint32{25000, 25000}, []uint32{1, 1 << 31}},
		{[]uint32{0, 49999, 0}, []uint32{2, math.MaxUint32, math.MaxUint32 - 49998}},
		{slices.Repeat([]uint32{1}, 50000), []uint32{1, math.MaxUint32}},
		{slices.Repeat([]uint32{50}, 1000), []uint32{1}},
	} {
		for _, n := range p.last {
			for _, number := range longerU(n) {
				whole := groups(append(slices.Clone(p.before), 0)...)
				front := whole[:len(whole)-2]
				for _, behind := range [][]byte{nil, {127}, {126}, {127, 11}, {255, 255}} {
					checkCodeFault(t, slices.Concat(front, number, behind), api.ErrMany, len(front))
				}
			}
		}
	}
	// Further groups of no words are not too many; a later one is.
	checkCodeFault(t, append(groups(50000, 0, 0, 1), 11), api.ErrMany, len(groups(50000, 0, 0)))
	checkCodeFault(t, append(groups(0, 0, 50001, 0), 11), api.ErrMany, len(groups(0, 0)))
}

// P6.3: the faults of leb, in the number of groups and in a group's own.
func TestGetCodeNumbers(t *testing.T) {
	for _, front := range [][]byte{nil, {1}, {3, 7, 127}, {2, 208, 134, 3, 127}} {
		for _, w := range wrongU() {
			checkCodeFault(t, slices.Concat(front, w.b), api.ErrBytes, len(front)+w.at)
		}
		for _, short := range [][]byte{nil, {128}, {255, 255}, {128, 128, 128, 128}} {
			checkCodeFault(t, slices.Concat(front, short), api.ErrBytes, len(front)+len(short))
		}
	}
	for _, n := range longerU(2) {
		for _, one := range longerU(1) {
			for _, other := range longerU(300) {
				checkReadCode(t, slices.Concat(n, one, []byte{127}, other, []byte{127, 1, 11}), api.Code{Locals: 301, L: nops(1)})
			}
		}
	}
	for _, none := range longerU(0) {
		checkReadCode(t, slices.Concat(none, []byte{11}), api.Code{})
		checkReadCode(t, slices.Concat([]byte{1}, none, []byte{127, 11}), api.Code{})
	}
}

// P6.3: a byte that is not 127 behind a group's number.
func TestGetCodeTags(t *testing.T) {
	for c := range 256 {
		if c == 127 {
			continue
		}
		for _, front := range [][]byte{{1, 0}, {1, 1}, {1, 208, 134, 3}, {2, 1, 127, 2}, {1, 129, 0}} {
			checkCodeFault(t, append(front, byte(c)), api.ErrTag, len(front))
			checkCodeFault(t, append(front, byte(c), 127, 11), api.ErrTag, len(front))
		}
	}
}

// P6.3: a number of groups that the bytes do not hold.
func TestGetCodeMissing(t *testing.T) {
	for _, n := range []uint32{1, 2, 127, 50000, 50001, 1 << 31, math.MaxUint32} {
		for _, b := range longerU(n) {
			checkCodeFault(t, b, api.ErrBytes, len(b))
			if n > 1 {
				checkCodeFault(t, slices.Concat(b, []byte{1, 127}), api.ErrBytes, len(b)+2)
				checkCodeFault(t, slices.Concat(b, []byte{0, 127, 11}), api.ErrBytes, 0+len(b)+3)
				checkCodeFault(t, slices.Concat(b, []byte{0, 127, 1, 11}), api.ErrTag, len(b)+3)
			}
		}
	}
	many := bytes.Repeat([]byte{0, 127}, 200000)
	checkCodeFault(t, slices.Concat(leb.PutU(math.MaxUint32), many), api.ErrBytes, 5+len(many))
	checkCodeFault(t, slices.Concat(leb.PutU(200001), many), api.ErrBytes, 3+len(many))
	checkCodeFault(t, slices.Concat(leb.PutU(200000), many), api.ErrBytes, 3+len(many))
	checkReadCode(t, slices.Concat(leb.PutU(200000), many, []byte{11}), api.Code{})
}

// P6.3: the first fault is told, whatever later bytes have; those of the list come behind those of the groups.
func TestGetCodeFirstFault(t *testing.T) {
	faulty := []struct {
		wrong
		e api.Errno
	}{
		{wrong{[]byte{255, 255, 255, 255, 16}, 4}, api.ErrBytes},
		{wrong{[]byte{1, 255, 255, 255, 255, 16}, 5}, api.ErrBytes},
		{wrong{[]byte{1, 209, 134, 3}, 1}, api.ErrMany},
		{wrong{[]byte{2, 1, 127, 208, 134, 3}, 3}, api.ErrMany},
		{wrong{[]byte{1, 1, 126}, 2}, api.ErrTag},
		{wrong{[]byte{2, 1, 127, 1, 0}, 4}, api.ErrTag},
		{wrong{[]byte{1, 1, 127, 6}, 3}, api.ErrOp},
		{wrong{[]byte{0, 5}, 1}, api.ErrOp},
		{wrong{[]byte{0, 2, 65}, 2}, api.ErrTag},
		{wrong{[]byte{1, 208, 134, 3, 127, 14, 129, 128, 1}, 6}, api.ErrMany},
	}
	for _, a := range faulty {
		checkCodeFault(t, a.b, a.e, a.at)
		for _, b := range faulty {
			checkCodeFault(t, slices.Concat(a.b, b.b), a.e, a.at)
		}
		for _, b := range fragments() {
			checkCodeFault(t, slices.Concat(a.b, b.b), a.e, a.at)
		}
	}
	for _, front := range [][]byte{groups(), groups(5), groups(0, 300, 49000)} {
		for _, b := range fragments() {
			checkCodeFault(t, slices.Concat(front, []byte{4, 64}, b.b), b.e, len(front)+2+b.at)
		}
	}
}

// P6.4: what is encoded is read as it was, wherever it stands.
func TestCodeThere(t *testing.T) {
	for _, locals := range []int{0, 1, 2, 63, 64, 127, 128, 16383, 16384, 49999, 50000} {
		for _, l := range samples() {
			c := api.Code{Locals: locals, L: l}
			b, e := PutCode(c)
			if e != api.OK {
				t.Fatal(e)
			}
			checkReadCode(t, b, c)
		}
	}
	for _, i := range everyVariant() {
		b, _ := Put(only(i))
		checkRead(t, b, only(i))
		checkReadCode(t, append([]byte{0}, b...), api.Code{L: only(i)})
	}
}

// P6.4, at the limits.
func TestLimitsThere(t *testing.T) {
	lists := [][]api.Instr{nops(api.MaxCode), only(brTable(api.MaxItems)), slices.Repeat(only(brTable(api.MaxItems)), 5)}
	for k := range wraps() {
		lists = append(lists, nest(nop(), api.MaxLists-1, k, 0), nest(brTable(100), api.MaxLists-1, k, 1))
	}
	for _, l := range lists {
		b, e := Put(l)
		back, next, f := Get(b, 0)
		if e != api.OK || !same(back, l) || next != len(b) || f != (api.Fault{}) {
			t.Errorf("%.100s: %d, %d of %d, %v", instr.Text(l), e, next, len(b), f)
		}
		c := api.Code{Locals: api.MaxLocals, L: l}
		b, e = PutCode(c)
		code, next, f := GetCode(b, 0)
		if e != api.OK || !sameCode(code, c) || next != len(b) || f != (api.Fault{}) {
			t.Errorf("code of %.100s: %d, %d of %d, %v", instr.Text(l), e, next, len(b), f)
		}
	}
}

// Rule 4, of code.
func TestGetCodeMemory(t *testing.T) {
	for _, l := range samples() {
		b, _ := PutCode(api.Code{Locals: 9, L: l})
		was := slices.Clone(b)
		c, _, _ := GetCode(b, 0)
		if !bytes.Equal(b, was) {
			t.Fatal("changed")
		}
		clear(b)
		fillSpare(c.L)
		if !sameCode(c, api.Code{Locals: 9, L: l}) {
			t.Error("shares memory")
		}
		for at := range was {
			if _, next, f := GetCode(was[:at], 0); next != 0 || f != faultAt(api.ErrBytes, at) {
				t.Errorf("GetCode(.. of %d) = %d, %v", at, next, f)
			}
		}
	}
}

// The chapter's examples.
func TestExamples(t *testing.T) {
	checkPut(t, []api.Instr{{Op: api.OpConst, N: -1}, {Op: api.OpDrop}}, []byte{65, 127, 26, 11}, api.OK)
	branch := api.Instr{Op: api.OpIf, Results: 1, L: only(api.Instr{Op: api.OpGet}), E: only(api.Instr{Op: api.OpConst, N: 1})}
	checkPut(t, only(branch), []byte{4, 127, 32, 0, 5, 65, 1, 11, 11}, api.OK)
	checkRead(t, []byte{4, 64, 5, 11, 11}, only(api.Instr{Op: api.OpIf}))
	checkFault(t, []byte{5, 11}, api.ErrOp, 0)
	checkFault(t, []byte{1}, api.ErrBytes, 1)
	checkFault(t, []byte{2, 65, 11, 11}, api.ErrTag, 1)
	checkFault(t, []byte{63, 1, 11, 11}, api.ErrTag, 1)
	checkFault(t, []byte{6}, api.ErrOp, 0)
	checkPutCode(t, api.Code{Locals: 3, L: nops(1)}, []byte{1, 3, 127, 1, 11}, api.OK)
	checkReadCode(t, []byte{2, 1, 127, 2, 127, 1, 11}, api.Code{Locals: 3, L: nops(1)})
}
