package body

import (
	"bytes"
	"fmt"
	"math"
	"slices"
	"testing"

	"gimlet/api"
	"gimlet/instr"
	"gimlet/leb"
)

// checkGet holds Get against the second reading, and what is read against P6.4.
func checkGet(t *testing.T, b []byte, at int) {
	t.Helper()
	want, wantNext, wantFault := readList(b, at)
	l, next, f := Get(b, at)
	if !same(l, want) || next != wantNext || f != wantFault {
		t.Fatalf("Get(%s, %d) = %.200s, %d, %v; want %.200s, %d, %v", show(b), at, instr.Text(l), next, f, instr.Text(want), wantNext, wantFault)
	}
	if f.Err != api.OK {
		return
	}
	again, e := Put(l)
	back, end, f := Get(again, 0)
	if e != api.OK || len(again) > next-at || !same(back, l) || end != len(again) || f.Err != api.OK {
		t.Fatalf("Get(%s, %d): Put = %s, %d, read as %.200s, %d, %v", show(b), at, show(again), e, instr.Text(back), end, f)
	}
}

// checkOneFault holds that a fault is told, and nothing else.
func checkOneFault(t *testing.T, b []byte, from int, e api.Errno, at int) {
	t.Helper()
	if l, next, f := Get(b, from); l != nil || next != 0 || f != faultAt(e, at) {
		t.Fatalf("Get(%s, %d) = %.200s, %d, %v; want %v", show(b), from, instr.Text(l), next, f, faultAt(e, at))
	}
}

// checkFault holds also that neither what stands in front nor, if the fault is not at the end, what follows changes it, and that code has the same.
func checkFault(t *testing.T, b []byte, e api.Errno, at int) {
	t.Helper()
	checkOneFault(t, b, 0, e, at)
	for _, front := range [][]byte{{11}, {4, 64, 5}, {255, 255, 2}} {
		checkOneFault(t, slices.Concat(front, b), len(front), e, len(front)+at)
	}
	checkCodeFault(t, slices.Concat([]byte{0}, b), e, 1+at)
	checkCodeFault(t, slices.Concat([]byte{2, 0, 127, 200, 1, 127}, b), e, 6+at)
	if at == len(b) {
		return
	}
	for _, behind := range [][]byte{{11}, {6}, {128, 128, 255, 255, 255}, {0, 0, 11, 11, 11}} {
		checkOneFault(t, slices.Concat(b, behind), 0, e, at)
	}
}

// show is a text of bytes, cut where they are many.
func show(b []byte) string {
	if len(b) <= 60 {
		return fmt.Sprint(b)
	}
	return fmt.Sprintf("%v .. %v, %d in all", b[:20], b[len(b)-20:], len(b))
}

func checkRead(t *testing.T, b []byte, want []api.Instr) {
	t.Helper()
	for _, front := range [][]byte{nil, {11}, {4, 64, 5}, {255, 255, 2}} {
		for _, behind := range [][]byte{nil, {11}, {5}, {6, 0}, {255, 1, 1}} {
			all := slices.Concat(front, b, behind)
			l, next, f := Get(all, len(front))
			if !same(l, want) || next != len(front)+len(b) || f != (api.Fault{}) {
				t.Fatalf("Get(%s, %d) = %.200s, %d, %v; want %.200s", show(all), len(front), instr.Text(l), next, f, instr.Text(want))
			}
		}
	}
}

// P6.2, of places below 0, at the end, and beyond it.
func TestGetPlaces(t *testing.T) {
	for _, b := range [][]byte{nil, {}, {11}, {1}, {1, 11}, {6}, {2, 64, 11, 11, 11}} {
		for _, at := range []int{-1, -2, -len(b), -len(b) - 1, len(b) + 1, len(b) + 2, 100, math.MinInt, math.MaxInt, math.MaxInt32, 1 << 32} {
			if at == 0 {
				continue
			}
			l, next, f := Get(b, at)
			c, after, g := GetCode(b, at)
			if l != nil || next != 0 || f != faultAt(api.ErrRange, 0) || c.L != nil || c.Locals != 0 || after != 0 || g != f {
				t.Errorf("Get, GetCode(%v, %d) = %v, %d, %v; %v, %d, %v", b, at, l, next, f, c, after, g)
			}
		}
		l, next, f := Get(b, len(b))
		c, after, g := GetCode(b, len(b))
		if l != nil || next != 0 || f != faultAt(api.ErrBytes, len(b)) || c.L != nil || after != 0 || g != f {
			t.Errorf("Get, GetCode(%v, at its end) = %v, %d, %v; %v, %d, %v", b, l, next, f, c, after, g)
		}
		for at := range b {
			checkGet(t, b, at)
		}
	}
}

// P6.2, of all short lists of edge bytes.
func TestGetShort(t *testing.T) {
	everyBytes([]byte{0, 1, 2, 4, 5, 6, 11, 12, 14, 17, 40, 63, 64, 65, 127, 128}, 4, func(b []byte) { checkGet(t, b, 0) })
	everyBytes([]byte{1, 3, 4, 5, 11, 14, 64, 127, 255}, 5, func(b []byte) { checkGet(t, b, 0) })
	everyBytes([]byte{0, 5, 11, 16, 45, 64, 129}, 5, func(b []byte) {
		for at := range b {
			checkGet(t, b, at)
		}
	})
	// Every byte ahead of all short lists of some.
	everyBytes([]byte{0, 1, 2, 5, 11, 64, 127, 128}, 3, func(b []byte) {
		for c := range 256 {
			checkGet(t, slices.Concat([]byte{byte(c)}, b), 0)
			checkGet(t, slices.Concat([]byte{4, 64, byte(c)}, b), 0)
		}
	})
}

// P6.2, of all short lists of what begins, divides and ends lists.
func TestGetNested(t *testing.T) {
	everyPieces([][]byte{{4, 64}, {2, 127}, {5}, {11}, {1}}, 8, func(b []byte) { checkGet(t, b, 0) })
}

// P6.2, of lists that are right but for one byte, or that end too early.
func TestGetSpoilt(t *testing.T) {
	for _, l := range samples() {
		b, _ := Put(l)
		checkRead(t, b, l)
		for at := range b {
			checkOneFault(t, b[:at], 0, api.ErrBytes, at)
			checkGet(t, b, at)
		}
		checkFault(t, b[:len(b)-1], api.ErrBytes, len(b)-1)
		checkFault(t, b[:len(b)/2], api.ErrBytes, len(b)/2)
		spoil(b, func(x []byte) { checkGet(t, x, 0) })
	}
}

// spoil calls f with bytes of which one is another one, is missing, or stands there twice.
func spoil(b []byte, f func([]byte)) {
	for at := range b {
		for _, c := range []byte{0, 1, 4, 5, 6, 11, 14, 63, 64, 65, 127, 128, 255, b[at] ^ 1, b[at] ^ 128} {
			x := slices.Clone(b)
			x[at] = c
			f(x)
		}
		f(slices.Delete(slices.Clone(b), at, at+1))
		f(slices.Insert(slices.Clone(b), at, b[at]))
	}
}

// P6.2: ErrOp at each byte that is no operation, in each kind of list.
func TestGetNoOperation(t *testing.T) {
	strangers := 0
	for c := range 256 {
		if rows[c] != nil || c == 11 || c == 5 {
			continue
		}
		strangers++
		for _, front := range [][]byte{nil, {1}, {2, 64}, {3, 127, 1}, {4, 64}, {4, 64, 5}, {4, 64, 1, 5, 1}, {4, 64, 11}, {2, 64, 2, 64, 11}} {
			checkFault(t, append(front, byte(c)), api.ErrOp, len(front))
		}
	}
	if strangers != 256-58-2 {
		t.Error(strangers)
	}
	checkFault(t, []byte{127}, api.ErrOp, 0)
	checkFault(t, []byte{128}, api.ErrOp, 0)
	checkFault(t, []byte{255}, api.ErrOp, 0)
}

// P6.2: a 5 where no OpIf's first list may end.
func TestGetFive(t *testing.T) {
	for _, front := range [][]byte{
		nil, {1}, {1, 1, 26}, // outside of all
		{2, 64}, {2, 127, 1}, {3, 64}, {3, 64, 1}, // in a Block, a Loop
		{4, 64, 5}, {4, 64, 1, 5}, {4, 64, 5, 1}, {4, 127, 1, 5, 1, 1}, // behind a second list
		{4, 64, 2, 64}, {4, 64, 3, 64, 1}, {4, 64, 5, 2, 64}, // in a Block in an If
		{4, 64, 11}, {4, 64, 5, 11}, {4, 64, 1, 5, 1, 11}, // behind an If
		{2, 64, 4, 64, 11}, {2, 64, 4, 64, 5, 11}, // behind an If in a Block
		{4, 64, 5, 4, 64, 5}, {4, 64, 5, 4, 64, 11}, {4, 64, 4, 64, 11, 5}, // in and behind an If in an If
	} {
		checkFault(t, append(front, 5), api.ErrOp, len(front))
	}
	empty, one := api.Instr{Op: api.OpIf}, api.Instr{Op: api.OpIf, E: nops(1)}
	checkRead(t, []byte{4, 64, 5, 11, 11}, only(empty))
	checkRead(t, []byte{4, 64, 11, 11}, only(empty))
	checkRead(t, []byte{4, 64, 5, 1, 11, 11}, only(one))
	checkRead(t, []byte{4, 64, 1, 5, 11, 11}, only(api.Instr{Op: api.OpIf, L: nops(1)}))
	checkRead(t, []byte{4, 127, 1, 1, 5, 1, 11, 1, 11}, []api.Instr{{Op: api.OpIf, Results: 1, L: nops(2), E: nops(1)}, nop()})
	checkRead(t, []byte{4, 64, 4, 64, 5, 1, 11, 5, 11, 11}, only(api.Instr{Op: api.OpIf, L: only(one)}))
	checkRead(t, []byte{4, 64, 4, 64, 11, 5, 4, 64, 5, 1, 11, 11, 11}, only(api.Instr{Op: api.OpIf, L: only(empty), E: only(one)}))
	checkRead(t, []byte{4, 64, 2, 64, 11, 5, 1, 11, 11}, only(api.Instr{Op: api.OpIf, L: only(api.Instr{Op: api.OpBlock}), E: nops(1)}))
}

// P6.2: where the bytes that must be 64 or 127, or 0, are others.
func TestGetTags(t *testing.T) {
	for c := range 256 {
		for _, op := range []byte{2, 3, 4} {
			if c == 64 || c == 127 {
				checkRead(t, []byte{op, byte(c), 11, 11}, only(api.Instr{Op: int(op), Results: c / 127}))
				continue
			}
			checkFault(t, []byte{op, byte(c)}, api.ErrTag, 1)
			checkFault(t, []byte{op, byte(c), 11, 11}, api.ErrTag, 1)
			checkFault(t, []byte{1, 4, 64, 5, op, byte(c), 0, 11, 11, 11}, api.ErrTag, 5)
		}
		if c == 0 {
			continue
		}
		checkFault(t, []byte{63, byte(c), 11}, api.ErrTag, 1)
		checkFault(t, []byte{64, byte(c), 11}, api.ErrTag, 1)
		checkFault(t, []byte{17, 9, byte(c), 11}, api.ErrTag, 2)
		checkFault(t, []byte{17, 137, 0, byte(c)}, api.ErrTag, 3)
		checkFault(t, []byte{2, 64, 63, byte(c)}, api.ErrTag, 3)
	}
	checkRead(t, []byte{63, 0, 64, 0, 17, 200, 1, 0, 11}, []api.Instr{{Op: api.OpSize}, {Op: api.OpGrow}, {Op: api.OpIndirect, A: 200}})
}

// numberPlaces are, for each operation with numbers, the bytes up to each number of its own, and whether it has a sign.
func numberPlaces() map[string]bool {
	out := map[string]bool{"\x41": true}
	for _, r := range table() {
		op := string([]byte{byte(r.op)})
		switch r.follows {
		case "A", "A0":
			out[op] = false
		case "AB":
			out[op] = false
			out[op+"\x02"] = false
			out[op+"\x80\x00"] = false
		case "TA":
			out[op] = false
			out[op+"\x00"] = false
			out[op+"\x01"] = false
			out[op+"\x02\x07"] = false
			out[op+"\x02\x07\xff\x01"] = false
		}
	}
	return out
}

// P6.2: each fault of leb, for each number.
func TestGetNumbers(t *testing.T) {
	places := numberPlaces()
	if len(places) != 1+9+3*8+5 {
		t.Fatal(len(places))
	}
	for place, signed := range places {
		wrongs := wrongU()
		if signed {
			wrongs = wrongS()
		}
		for _, front := range []string{"", "\x01", "\x02\x40", "\x04\x40\x05\x01"} {
			front += place
			for _, w := range wrongs {
				checkFault(t, append([]byte(front), w.b...), api.ErrBytes, len(front)+w.at)
			}
			for _, short := range []string{"", "\x80", "\xff", "\x81\x80", "\xff\xff\xff", "\x80\x80\x80\x80"} {
				b := []byte(front + short)
				checkFault(t, b, api.ErrBytes, len(b))
			}
		}
	}
	// What is a number with a sign need be none without it, and the other way round.
	checkRead(t, []byte{65, 255, 255, 255, 255, 127, 11}, only(api.Instr{Op: api.OpConst, N: -1}))
	checkRead(t, []byte{65, 128, 128, 128, 128, 120, 11}, only(api.Instr{Op: api.OpConst, N: math.MinInt32}))
	checkRead(t, []byte{65, 255, 255, 255, 255, 7, 11}, only(api.Instr{Op: api.OpConst, N: math.MaxInt32}))
	checkRead(t, []byte{32, 255, 255, 255, 255, 15, 11}, only(api.Instr{Op: api.OpGet, A: math.MaxUint32}))
	checkRead(t, []byte{40, 255, 255, 255, 255, 15, 128, 128, 128, 128, 8, 11}, only(api.Instr{Op: api.OpLoad, A: math.MaxUint32, B: 1 << 31}))
	checkRead(t, []byte{14, 2, 255, 255, 255, 255, 15, 64, 127, 11}, only(api.Instr{Op: api.OpBrTable, Tags: []uint32{math.MaxUint32, 64}, A: 127}))
}

// P6.2: how many labels there may be.
func TestGetLabels(t *testing.T) {
	const most = api.MaxItems
	if most != 16384 {
		t.Fatal(most)
	}
	for _, n := range longerU(most) {
		b := slices.Concat([]byte{14}, n, make([]byte, most), []byte{7, 11})
		i := brTable(most)
		i.A = 7
		checkRead(t, b, only(i))
		for _, cut := range []int{1, 2, 3, most, most + 2} {
			checkFault(t, b[:len(b)-cut], api.ErrBytes, len(b)-cut)
		}
	}
	checkRead(t, slices.Concat([]byte{14, 255, 127}, make([]byte, most), []byte{11}), only(brTable(most-1)))
	for _, n := range []uint32{most + 1, most + 2, 2 * most, 50000, 65536, 65537, 1<<31 - 1, 1 << 31, math.MaxUint32 - 1, math.MaxUint32} {
		for _, b := range longerU(n) {
			checkFault(t, slices.Concat([]byte{14}, b), api.ErrMany, 1)
			checkFault(t, slices.Concat([]byte{2, 64, 1, 14}, b, []byte{11, 11}), api.ErrMany, 4)
		}
	}
	checkFault(t, slices.Concat([]byte{14}, leb.PutU(most+1), make([]byte, most+2), []byte{11}), api.ErrMany, 1)
	// It is each one's own number.
	one := slices.Concat([]byte{14}, leb.PutU(most), make([]byte, most+1))
	checkRead(t, slices.Concat(one, one, one, []byte{11}), slices.Repeat(only(brTable(most)), 3))
	checkFault(t, slices.Concat(one, []byte{14}, leb.PutU(most+1)), api.ErrMany, len(one)+1)
}

// opens are the ways in which a list in another one may begin.
func opens() [][]byte {
	return [][]byte{{2, 64}, {3, 127}, {4, 64}, {4, 127, 5}, {1, 4, 64, 5}, {1, 1, 2, 64}}
}

// P6.2: how deep an operation may be.
func TestGetDeep(t *testing.T) {
	const most = api.MaxLists
	if most != 900 {
		t.Fatal(most)
	}
	for _, open := range opens() {
		front, end := bytes.Repeat(open, most), bytes.Repeat([]byte{11}, most+1)
		// The list in the 900th may be empty: what would be in it is too deep.
		whole := slices.Concat(front, end)
		if l, next, f := Get(whole, 0); next != len(whole) || f != (api.Fault{}) || instr.Deep(l) != most {
			t.Errorf("%v: %d, %d, %v", open, instr.Deep(l), next, f)
		}
		for _, r := range table() {
			checkOneFault(t, append(slices.Clone(front), byte(r.op)), 0, api.ErrMany, len(front))
			checkOneFault(t, slices.Concat([]byte{9}, front, []byte{byte(r.op), 6, 6}), 1, api.ErrMany, 1+len(front))
		}
		checkFault(t, append(slices.Clone(front), 1), api.ErrMany, len(front))
		checkFault(t, append(slices.Clone(front), 6), api.ErrOp, len(front))
		checkFault(t, front, api.ErrBytes, len(front))
		checkGet(t, append(slices.Clone(front), 5), 0)
		checkGet(t, slices.Concat(front, []byte{5}, end), 0)
		checkGet(t, slices.Concat(front, []byte{5, 1}), 0)
		checkGet(t, slices.Concat(front, []byte{11, 5, 2}), 0)
	}
}

// P6.2: what is 900 deep is not too deep, and others behind it may be as deep again.
func TestGetJustDeep(t *testing.T) {
	const most = api.MaxLists
	for _, open := range opens() {
		front, end := bytes.Repeat(open, most-1), bytes.Repeat([]byte{11}, most-1)
		for _, i := range everyVariant() {
			if i.A > 1 || i.B > 1 || i.N > 1 || len(i.Tags) > 1 || len(i.L)+len(i.E) > 0 {
				continue
			}
			b := slices.Concat(front, writeList(only(i)), end, []byte{11})
			if l, next, f := Get(b, 0); next != len(b) || f != (api.Fault{}) || instr.Deep(l) != most {
				t.Errorf("%v: %s: %d, %d, %v", open, instr.Text(only(i)), instr.Deep(l), next, f)
			}
		}
		checkFault(t, slices.Concat(front, []byte{1, 2, 64, 1}), api.ErrMany, len(front)+3)
		one := slices.Concat(front, []byte{1}, end)
		checkGet(t, slices.Concat(one, one, []byte{11}), 0)
		checkFault(t, slices.Concat(one, one, front, []byte{3, 64, 26}), api.ErrMany, 2*len(one)+len(front)+2)
	}
}

// As many lists in one another as the document's bound lets there be.
func TestGetDeepest(t *testing.T) {
	for _, open := range opens() {
		checkOneFault(t, bytes.Repeat(open, 1<<16), 0, api.ErrMany, 900*len(open))
	}
}

// P6.2: how many operations there may be.
func TestGetMany(t *testing.T) {
	const most = api.MaxCode
	if most != 262144 {
		t.Fatal(most)
	}
	blocks := bytes.Repeat([]byte{2, 64, 11}, most-1)
	deep := bytes.Repeat([]byte{4, 64, 5}, 899)
	for _, b := range [][]byte{
		bytes.Repeat([]byte{1}, most),
		bytes.Repeat([]byte{65, 127}, most),
		bytes.Repeat([]byte{2, 64, 1, 11}, most/2),
		bytes.Repeat([]byte{4, 64, 1, 5, 1, 1, 11}, most/4),
		append(slices.Clone(blocks), 1),
		append(slices.Clone(blocks), 4, 64, 5),
		append([]byte{2, 64}, bytes.Repeat([]byte{1}, most-1)...),
		slices.Concat(deep, bytes.Repeat([]byte{14, 0, 0}, most-899)),
	} {
		whole := slices.Concat(b, bytes.Repeat([]byte{11}, 1+900))
		l, next, f := Get(whole, 0)
		if f != (api.Fault{}) || instr.Count(l) != most || next <= len(b) {
			t.Errorf("%s: %d, %d, %v", show(b), instr.Count(l), next, f)
		}
		checkOneFault(t, append(slices.Clone(b), 1), 0, api.ErrMany, len(b))
		checkOneFault(t, slices.Concat([]byte{3}, b, []byte{65, 128}), 1, api.ErrMany, 1+len(b))
		checkOneFault(t, append(slices.Clone(b), 6), 0, api.ErrOp, len(b))
		checkOneFault(t, b, 0, api.ErrBytes, len(b))
		if _, _, f := GetCode(slices.Concat([]byte{1, 5, 127}, b, []byte{0}), 0); f != faultAt(api.ErrMany, 3+len(b)) {
			t.Errorf("%s: %v", show(b), f)
		}
	}
}

// P6.2: of one operation fewer, the next one is read, with what it has; a 5 and an end are no operations.
func TestGetOneFewer(t *testing.T) {
	const most = api.MaxCode
	front := bytes.Repeat([]byte{1}, most-1)
	behind := func(b ...byte) []byte { return slices.Concat(front, b) }
	checkGet(t, behind(11), 0)
	checkGet(t, behind(1, 11), 0)
	checkOneFault(t, behind(65, 128), 0, api.ErrBytes, most+1)
	checkOneFault(t, behind(4, 65), 0, api.ErrTag, most)
	checkOneFault(t, behind(1, 26), 0, api.ErrMany, most)
	checkGet(t, behind(4, 64, 5, 11, 11), 0)
	checkOneFault(t, behind(4, 64, 5, 5), 0, api.ErrOp, most+2)
	checkOneFault(t, behind(4, 64, 1), 0, api.ErrMany, most+1)
	checkOneFault(t, behind(4, 64, 5, 1), 0, api.ErrMany, most+2)
	checkOneFault(t, behind(4, 64, 11, 1), 0, api.ErrMany, most+2)
	checkOneFault(t, behind(4, 64, 5, 11, 1), 0, api.ErrMany, most+3)
}

// fragments are bytes each of which is refused by a rule of its own, at a place before their end, in an OpIf's first list.
func fragments() []struct {
	wrong
	e api.Errno
} {
	type fragment = struct {
		wrong
		e api.Errno
	}
	var out []fragment
	add := func(e api.Errno, at int, b ...byte) { out = append(out, fragment{wrong{b, at}, e}) }
	add(api.ErrOp, 0, 6)
	add(api.ErrOp, 1, 5, 5)
	add(api.ErrOp, 2, 2, 64, 5)
	add(api.ErrOp, 0, 128)
	add(api.ErrTag, 1, 2, 65)
	add(api.ErrTag, 1, 3, 0)
	add(api.ErrTag, 1, 4, 255)
	add(api.ErrTag, 1, 63, 1)
	add(api.ErrTag, 2, 17, 3, 128)
	add(api.ErrBytes, 5, 32, 255, 255, 255, 255, 16)
	add(api.ErrBytes, 6, 40, 2, 255, 255, 255, 255, 128)
	add(api.ErrBytes, 5, 65, 255, 255, 255, 255, 8)
	add(api.ErrBytes, 5, 14, 255, 255, 255, 255, 127)
	add(api.ErrMany, 1, 14, 129, 128, 1)
	add(api.ErrMany, 1, 14, 255, 255, 255, 255, 15)
	return out
}

// P6.2: the first fault is told, whatever later bytes have.
func TestGetFirstFault(t *testing.T) {
	for _, a := range fragments() {
		for _, front := range [][]byte{{4, 64}, {2, 64, 4, 127}, {1, 4, 64, 1}} {
			checkFault(t, slices.Concat(front, a.b), a.e, len(front)+a.at)
			for _, b := range fragments() {
				checkFault(t, slices.Concat(front, a.b, b.b), a.e, len(front)+a.at)
				if a.e != api.ErrMany { // what is too many is known only behind its bytes
					checkFault(t, slices.Concat(front, a.b[:a.at+1], b.b), a.e, len(front)+a.at)
				}
			}
			deep := bytes.Repeat([]byte{2, 64}, 901)
			checkFault(t, slices.Concat(front, a.b, deep), a.e, len(front)+a.at)
			checkFault(t, slices.Concat(deep, a.b), api.ErrMany, 2*900)
		}
	}
	// Within one operation.
	checkFault(t, []byte{17, 255, 255, 255, 255, 255, 1}, api.ErrBytes, 5)
	checkFault(t, []byte{17, 9, 1, 6}, api.ErrTag, 2)
	checkFault(t, []byte{40, 255, 255, 255, 255, 16, 255, 255, 255, 255, 16}, api.ErrBytes, 5)
	checkFault(t, []byte{14, 2, 255, 255, 255, 255, 16, 255, 255, 255, 255, 16}, api.ErrBytes, 6)
	checkFault(t, []byte{14, 129, 128, 1, 255, 255, 255, 255, 16}, api.ErrMany, 1)
	checkFault(t, []byte{4, 65, 5, 5}, api.ErrTag, 1)
}

// P6.2 and P6.4, of numbers in all the ways in which they can be written.
func TestGetLongerNumbers(t *testing.T) {
	for _, word := range edgeWords() {
		for _, n := range longerU(word) {
			checkRead(t, slices.Concat([]byte{16}, n, []byte{11}), only(api.Instr{Op: api.OpCall, A: word}))
			checkRead(t, slices.Concat([]byte{17}, n, []byte{0, 11}), only(api.Instr{Op: api.OpIndirect, A: word}))
			checkGet(t, slices.Concat([]byte{16}, n, []byte{11}), 0)
			for _, other := range longerU(^word) {
				checkRead(t, slices.Concat([]byte{54}, n, other, []byte{11}), only(api.Instr{Op: api.OpStore, A: word, B: ^word}))
				for _, size := range longerU(1) {
					b := slices.Concat([]byte{14}, size, n, other, []byte{11})
					checkRead(t, b, only(api.Instr{Op: api.OpBrTable, Tags: []uint32{word}, A: ^word}))
					checkGet(t, b, 0)
				}
			}
		}
		for _, n := range longerS(int32(word)) {
			b := slices.Concat([]byte{65}, n, []byte{11})
			checkRead(t, b, only(api.Instr{Op: api.OpConst, N: int32(word)}))
			checkGet(t, b, 0)
		}
	}
}

// Rule 4: bytes stay as they were, those behind their end are not read, and what is answered is new memory.
func TestGetMemory(t *testing.T) {
	for _, l := range samples() {
		b, _ := Put(l)
		was := slices.Clone(b)
		x, _, _ := Get(b, 0)
		if !bytes.Equal(b, was) {
			t.Fatal("changed")
		}
		clear(b)
		if !same(x, l) {
			t.Error("shares memory with what is given")
		}
		fillSpare(x)
		if !same(x, l) {
			t.Error("lists of one answer share memory")
		}
		for at := range was {
			if _, next, f := Get(was[:at], 0); next != 0 || f != faultAt(api.ErrBytes, at) {
				t.Errorf("Get(.. of %d) = %d, %v", at, next, f)
			}
		}
	}
}

// fillSpare writes into all memory that is behind lists.
func fillSpare(l []api.Instr) {
	for _, i := range l {
		fillSpare(i.L)
		fillSpare(i.E)
		tags := i.Tags[len(i.Tags):cap(i.Tags)]
		for k := range tags {
			tags[k] = 77
		}
	}
	spare := l[len(l):cap(l)]
	for k := range spare {
		spare[k] = api.Instr{Op: 77, A: 77}
	}
}
