package decode

import (
	"bytes"
	"slices"
	"strings"
	"testing"

	"gimlet/api"
	"gimlet/leb"
)

// What a piece of a section is, as the rows of P9.2's table tell them apart.
const (
	anyNumber  = "a number"
	countOf    = "the number of items of a list"
	countOfOne = "the number of tables, or of memories"
	countCodes = "the number of codes"
	typeNumber = "Type"
	nought     = "the number before Offset"
	sizeBytes  = "the number of Bytes"
	sizeCode   = "a code's size"
	aName      = "a name"
	aType      = "a type"
	ofTable    = "a table's limits"
	ofMemory   = "a memory's limits"
	aList      = "instructions"
	aCode      = "a code"
	someBytes  = "Bytes"
	funcByte   = "0 of an import"
	tableByte  = "112"
	wordByte   = "127"
	mutByte    = "0 or 1 of a global"
	kindByte   = "a kind"
)

// piece is a part of a section's own bytes.
type piece struct {
	kind string
	b    []byte
}

// layout is a section piece by piece, with what must stand ahead of it and behind it, and the module that all of it is.
type layout struct {
	front  []byte
	id     byte
	pieces []piece
	behind []byte
	m      api.Module
}

// own are the section's own bytes with other ones for a piece, and where these begin.
func (l layout) own(k int, b []byte) ([]byte, int) {
	var ahead, out []byte
	for i, p := range l.pieces {
		if i == k {
			ahead = slices.Clone(out)
			out = append(out, b...)
		} else {
			out = append(out, p.b...)
		}
	}
	return out, len(ahead)
}

// whole is all of it, with other bytes of its own.
func (l layout) whole(own []byte) []byte { return headed(l.front, section(l.id, own...), l.behind) }

// with is all of it, with other ones for a piece.
func (l layout) with(k int, b []byte) []byte {
	own, _ := l.own(k, b)
	return l.whole(own)
}

func twoFuncs() []byte { return section(3, 2, 1, 0) }

// layouts has each section with two items, or with as many as there may be.
func layouts() []layout {
	return []layout{
		{nil, 1, []piece{
			{countOf, []byte{2}}, {aType, []byte{96, 2, 127, 127, 1, 127}}, {aType, []byte{96, 0, 0}},
		}, nil, api.Module{Types: []api.FuncType{{Params: 2, Results: 1}, {}}}},
		{section(0, 1, 97), 2, []piece{
			{countOf, []byte{2}}, {aName, []byte{2, 'a', 'b'}}, {aName, []byte{1, 'c'}}, {funcByte, []byte{0}}, {typeNumber, []byte{5}},
			{aName, []byte{0}}, {aName, []byte{3, 226, 130, 172}}, {funcByte, []byte{0}}, {typeNumber, []byte{128, 1}},
		}, section(0, 0), api.Module{Imports: []api.Import{{Module: "ab", Name: "c", Type: 5}, {Name: "\u20ac", Type: 128}}}},
		{nil, 3, []piece{
			{countOf, []byte{2}}, {typeNumber, []byte{200, 1}}, {typeNumber, []byte{0}},
		}, section(10, 2, 2, 0, 11, 3, 0, 1, 11), api.Module{Funcs: []api.Func{{Type: 200}, {Code: api.Code{L: nops(1)}}}}},
		{nil, 4, []piece{
			{countOfOne, []byte{1}}, {tableByte, []byte{112}}, {ofTable, []byte{1, 3, 128, 1}},
		}, section(5, 0), api.Module{Tables: []api.Limits{{Min: 3, Max: 128, Capped: true}}}},
		{section(4, 0), 5, []piece{
			{countOfOne, []byte{1}}, {ofMemory, []byte{0, 200, 1}},
		}, nil, api.Module{Memories: []api.Limits{{Min: 200}}}},
		{nil, 6, []piece{
			{countOf, []byte{2}}, {wordByte, []byte{127}}, {mutByte, []byte{1}}, {aList, []byte{65, 7, 11}},
			{wordByte, []byte{127}}, {mutByte, []byte{0}}, {aList, []byte{11}},
		}, section(0, 1, 'z'), api.Module{Globals: []api.Global{{Mut: true, Init: constant(7)}, {}}}},
		{nil, 7, []piece{
			{countOf, []byte{2}}, {aName, []byte{1, 'x'}}, {kindByte, []byte{3}}, {anyNumber, []byte{172, 2}},
			{aName, []byte{0}}, {kindByte, []byte{0}}, {anyNumber, []byte{0}},
		}, nil, api.Module{Exports: []api.Export{{Name: "x", Kind: 3, Index: 300}, {}}}},
		{section(0, 0), 8, []piece{{anyNumber, []byte{150, 1}}}, nil, api.Module{Started: true, Start: 150}},
		{section(8, 1), 9, []piece{
			{countOf, []byte{2}}, {nought, []byte{0}}, {aList, []byte{65, 1, 11}}, {countOf, []byte{2}}, {anyNumber, []byte{7}}, {anyNumber, []byte{200, 1}},
			{nought, []byte{0}}, {aList, []byte{11}}, {countOf, []byte{0}},
		}, nil, api.Module{Started: true, Start: 1, Elems: []api.Elem{{Offset: constant(1), Funcs: []uint32{7, 200}}, {}}}},
		{twoFuncs(), 10, []piece{
			{countCodes, []byte{2}}, {sizeCode, []byte{6}}, {aCode, []byte{1, 2, 127, 65, 3, 11}}, {sizeCode, []byte{2}}, {aCode, []byte{0, 11}},
		}, section(11, 0), api.Module{Funcs: []api.Func{{Type: 1, Code: api.Code{Locals: 2, L: constant(3)}}, {}}}},
		{section(0, 0), 11, []piece{
			{countOf, []byte{2}}, {nought, []byte{0}}, {aList, []byte{65, 2, 11}}, {sizeBytes, []byte{3}}, {someBytes, []byte{9, 0, 255}},
			{nought, []byte{0}}, {aList, []byte{11}}, {sizeBytes, []byte{0}},
		}, section(0, 1, 'e', 12), api.Module{Datas: []api.Data{{Offset: constant(2), Bytes: []byte{9, 0, 255}}, {}}}},
	}
}

// eachPiece calls f with each piece of each layout that is of one of some kinds, and holds that there are so many.
func eachPiece(t *testing.T, want int, f func(l layout, k int), kinds ...string) {
	t.Helper()
	n := 0
	for _, l := range layouts() {
		for k, p := range l.pieces {
			if slices.Contains(kinds, p.kind) {
				n++
				f(l, k)
			}
		}
	}
	if n != want {
		t.Errorf("%d pieces of %v, want %d", n, kinds, want)
	}
}

// checkPiece holds that other bytes for a piece have a fault at a place among them.
func checkPiece(t *testing.T, l layout, k int, b []byte, e api.Errno, at int) {
	t.Helper()
	own, start := l.own(k, b)
	checkInside(t, l.pieces[k].kind, l.front, l.id, own, e, start+at)
}

// numbers are the kinds of pieces that are numbers by themselves.
func numbers() []string {
	return []string{anyNumber, countOf, countOfOne, countCodes, typeNumber, nought, sizeBytes, sizeCode}
}

// P9.2: each section as it should be; ended too early at each place, with what would follow behind its end; with bytes left.
func TestWholeSections(t *testing.T) {
	t.Parallel()
	for _, l := range layouts() {
		own, _ := l.own(-1, nil)
		checkIs(t, "a section", l.whole(own), l.m)
		for end := range own {
			checkInside(t, "too short", l.front, l.id, own[:end], api.ErrBytes, end)
			b := headed(l.front, section(l.id, own[:end]...))
			for _, behind := range [][]byte{own[end:], own, l.behind} {
				checkFault(t, "too short", append(slices.Clone(b), behind...), faultAt(api.ErrBytes, len(b)))
			}
		}
		for c := range 256 {
			checkInside(t, "a byte left", l.front, l.id, append(slices.Clone(own), byte(c)), api.ErrSize, len(own))
		}
		for _, more := range []int{2, 127, 128, 16384} {
			checkInside(t, "bytes left", l.front, l.id, append(slices.Clone(own), bytes.Repeat([]byte{11}, more)...), api.ErrSize, len(own))
		}
		checkInside(t, "the same again", l.front, l.id, slices.Concat(own, own), api.ErrSize, len(own))
	}
}

// P9.2: numbers with more bytes than they need are the same; what is no number is refused where leb says.
func TestNumbers(t *testing.T) {
	eachPiece(t, 29, func(l layout, k int) {
		n, _, _ := leb.GetU(l.pieces[k].b, 0)
		for _, b := range longer(n) {
			checkIs(t, "a longer number", l.with(k, b), l.m)
		}
		for _, b := range tooLong() {
			checkPiece(t, l, k, b, api.ErrBytes, 4)
		}
		for _, b := range unended() {
			own, start := l.own(k, b)
			checkInside(t, "a number's beginning", l.front, l.id, own[:start+len(b)], api.ErrBytes, start+len(b))
		}
	}, numbers()...)
	// All of them longer at once.
	for _, l := range layouts() {
		var own []byte
		for _, p := range l.pieces {
			if slices.Contains(numbers(), p.kind) {
				n, _, _ := leb.GetU(p.b, 0)
				p.b = longer(n)[len(longer(n))-1]
			}
			own = append(own, p.b...)
		}
		checkIs(t, "only longer numbers", l.whole(own), l.m)
	}
}

// P9.2: numbers of any size where there is no bound to them.
func TestGreatNumbers(t *testing.T) {
	for _, n := range []uint32{0, 1, 127, 128, 16383, 16384, 16385, 1<<21 - 1, 1 << 21, 1<<28 - 1, 1 << 28, 1<<31 - 1, 1 << 31, 1<<32 - 1} {
		for _, text := range longer(n) {
			checkIs(t, "an export's Index", headed(section(7, append([]byte{1, 0, 2}, text...)...)), api.Module{Exports: []api.Export{{Kind: 2, Index: n}}})
			checkIs(t, "Start", headed(section(8, text...)), api.Module{Started: true, Start: n})
			checkIs(t, "a function of an element", headed(section(9, append([]byte{1, 0, 11, 1}, text...)...)), api.Module{Elems: []api.Elem{{Funcs: []uint32{n}}}})
			checkIs(t, "A", headed(section(6, slices.Concat([]byte{1, 127, 0, 35}, text, []byte{11})...)), api.Module{Globals: []api.Global{{Init: []api.Instr{{Op: api.OpGetGlobal, A: n}}}}})
		}
	}
}

// P9.2: each byte with a fixed value, and all the others.
func TestFixedBytes(t *testing.T) {
	t.Parallel()
	allowed := map[string][]byte{funcByte: {0}, tableByte: {112}, wordByte: {127}, mutByte: {0, 1}, kindByte: {0, 1, 2, 3}}
	eachPiece(t, 9, func(l layout, k int) {
		for c := range 256 {
			b := []byte{byte(c)}
			if !slices.Contains(allowed[l.pieces[k].kind], b[0]) {
				checkPiece(t, l, k, b, api.ErrTag, 0)
				own, start := l.own(k, b)
				checkInside(t, "the last byte", l.front, l.id, own[:start+1], api.ErrTag, start)
				continue
			}
			check(t, l.with(k, b))
			if _, f := Module(l.with(k, b)); f != (api.Fault{}) {
				t.Errorf("%s: %d: %v", l.pieces[k].kind, c, f)
			}
		}
	}, funcByte, tableByte, wordByte, mutByte, kindByte)
	for kind := range byte(4) {
		checkIs(t, "a kind", headed(section(7, 1, 0, kind, 9)), api.Module{Exports: []api.Export{{Kind: int(kind), Index: 9}}})
	}
	for mut := range byte(2) {
		checkIs(t, "a global", headed(section(6, 1, 127, mut, 11)), api.Module{Globals: []api.Global{{Mut: mut == 1}}})
	}
	// A byte with a fixed value is no number: it can't be longer.
	checkInside(t, "0 of an import", nil, 2, []byte{1, 0, 0, 128, 0, 0}, api.ErrTag, 3)
	checkInside(t, "a kind", nil, 7, []byte{1, 0, 131, 0, 0}, api.ErrTag, 2)
	checkInside(t, "0 of a global", nil, 6, []byte{1, 127, 128, 0, 11}, api.ErrTag, 2)
}

// P9.2: the number before Offset.
func TestNought(t *testing.T) {
	eachPiece(t, 4, func(l layout, k int) {
		for _, n := range []uint32{1, 2, 3, 127, 128, 256, 16384, 1 << 28, 1 << 31, 1<<32 - 1} {
			for _, b := range longer(n) {
				checkPiece(t, l, k, b, api.ErrTag, 0)
				own, start := l.own(k, b)
				checkInside(t, "the last bytes", l.front, l.id, own[:start+len(b)], api.ErrTag, start)
			}
		}
	}, nought)
}

// P9.2: types of imports and of functions.
func TestTypeNumbers(t *testing.T) {
	eachPiece(t, 4, func(l layout, k int) {
		for _, n := range []uint32{0, 1, 127, 128, 16384, 1 << 28, 1 << 30, 1<<31 - 2, 1<<31 - 1} {
			for _, b := range longer(n) {
				m, f := Module(l.with(k, b))
				var got []int
				for _, i := range m.Imports {
					got = append(got, i.Type)
				}
				for _, u := range m.Funcs {
					got = append(got, u.Type)
				}
				if f != (api.Fault{}) || !slices.Contains(got, int(n)) {
					t.Errorf("Type %d: %v, %v", n, m, f)
				}
				check(t, l.with(k, b))
			}
		}
		for _, n := range []uint32{1 << 31, 1<<31 + 1, 3 << 30, 1<<32 - 2, 1<<32 - 1} {
			b := leb.PutU(n)
			checkPiece(t, l, k, b, api.ErrRange, 0)
			own, start := l.own(k, b)
			checkInside(t, "the last bytes", l.front, l.id, own[:start+len(b)], api.ErrRange, start)
		}
	}, typeNumber)
}

// P9.2: names of imports and exports: how long they may be, and what is no text.
func TestNames(t *testing.T) {
	t.Parallel()
	eachPiece(t, 6, func(l layout, k int) {
		for _, s := range []string{"", "n", strings.Repeat("n", 127), strings.Repeat("n", 128), strings.Repeat("n", 999), strings.Repeat("n", 1000), strings.Repeat("\u00e9", 500), strings.Repeat("\U0010ffff", 250), "\x00\ufffd"} {
			for _, size := range longer(uint32(len(s))) {
				b := append(slices.Clone(size), s...)
				m, f := Module(l.with(k, b))
				var got []string
				for _, i := range m.Imports {
					got = append(got, i.Module, i.Name)
				}
				for _, e := range m.Exports {
					got = append(got, e.Name)
				}
				if f != (api.Fault{}) || !slices.Contains(got, s) {
					t.Errorf("%.20q: %v", s, f)
				}
				check(t, l.with(k, b))
			}
		}
		for _, s := range []string{strings.Repeat("n", 1001), strings.Repeat("n", 1002), strings.Repeat("\u20ac", 334), strings.Repeat("n", 16384), strings.Repeat("n", 500000)} {
			for _, size := range longer(uint32(len(s))) {
				checkPiece(t, l, k, append(slices.Clone(size), s...), api.ErrLong, 0)
			}
		}
		for _, p := range []struct {
			s  string
			at int
		}{
			{"\xff", 1}, {"a\x80", 2}, {"ab\xc3", 3}, {"\xc0\x80", 1}, {"\u20ac\xed\xa0\x80", 4}, {"\xf4\x90\x80\x80", 1}, {strings.Repeat("n", 999) + "\xff", 1001},
			// The fault of name.Get comes ahead of that for what is too long.
			{strings.Repeat("n", 1000) + "\xff", 1002}, {"\xff" + strings.Repeat("n", 1000), 2},
		} {
			checkPiece(t, l, k, named(p.s), api.ErrBytes, p.at)
		}
		checkBeyond(t, l, k)
	}, aName)
}

// checkBeyond holds that a number of bytes that is above what follows in the section is refused at its end.
func checkBeyond(t *testing.T, l layout, k int) {
	t.Helper()
	_, start := l.own(k, nil)
	for _, n := range []uint32{1, 2, 100, 1000, 1001, 1 << 20, 1<<31 - 1, 1 << 31, 1<<32 - 1} {
		for _, size := range longer(n) {
			for _, there := range []int{0, 1, 99, 999} {
				if uint32(there) < n {
					own, _ := l.own(k, slices.Concat(size, bytes.Repeat([]byte{255}, there)))
					own = own[:start+len(size)+there]
					checkInside(t, "too few bytes", l.front, l.id, own, api.ErrBytes, len(own))
				}
			}
		}
	}
}

// P9.2: Bytes: as many as the module can have, and a number above what follows.
func TestBytes(t *testing.T) {
	eachPiece(t, 2, func(l layout, k int) { checkBeyond(t, l, k) }, sizeBytes)
	for _, n := range []int{0, 1, 127, 128, 16383, 16384, 16385, 20000, 1 << 19, 1000000} {
		data := bytes.Repeat([]byte{3, 255}, n/2+1)[:n]
		own := slices.Concat([]byte{1, 0, 11}, leb.PutU(uint32(n)), data)
		checkIs(t, "Bytes", headed(section(11, own...)), api.Module{Datas: []api.Data{{Bytes: data}}})
		checkInside(t, "one too few", nil, 11, slices.Concat([]byte{1, 0, 11}, leb.PutU(uint32(n+1)), data), api.ErrBytes, 3+leb.SizeU(uint32(n+1))+n)
		checkInside(t, "one too many", nil, 11, append(own, 0), api.ErrSize, len(own))
	}
}

// P9.2: types, limits and instructions: the faults of kind and of body.
func TestFaultsBelow(t *testing.T) {
	t.Parallel()
	deep := append(bytes.Repeat([]byte{2, 64}, 901), bytes.Repeat([]byte{11}, 902)...)
	below := map[string][]struct {
		b  []byte
		e  api.Errno
		at int
	}{
		aType: {
			{[]byte{95, 0, 0}, api.ErrTag, 0}, {[]byte{0, 0, 0}, api.ErrTag, 0}, {[]byte{96, 1, 126, 0}, api.ErrTag, 2}, {[]byte{96, 2, 127, 96, 0}, api.ErrTag, 3}, {[]byte{96, 0, 1, 64}, api.ErrTag, 3},
			{[]byte{96, 128, 2, 127}, api.ErrMany, 1}, {[]byte{96, 255, 255, 255, 255, 15}, api.ErrMany, 1}, {[]byte{96, 0, 2, 127, 127}, api.ErrMany, 2}, {[]byte{96, 1, 127, 130, 0}, api.ErrMany, 3},
			{[]byte{96, 128, 128, 128, 128, 16}, api.ErrBytes, 5}, {[]byte{96, 0, 255, 255, 255, 255, 255}, api.ErrBytes, 6},
		},
		ofTable: {
			{[]byte{2, 0}, api.ErrTag, 0}, {[]byte{112, 0}, api.ErrTag, 0}, {[]byte{0, 129, 128, 64}, api.ErrMany, 1}, {[]byte{1, 129, 128, 64, 129, 128, 64}, api.ErrMany, 1},
			{[]byte{1, 128, 128, 64, 129, 128, 64}, api.ErrMany, 4}, {[]byte{1, 4, 3}, api.ErrMany, 2}, {[]byte{1, 132, 0, 131, 0}, api.ErrMany, 3}, {[]byte{0, 128, 128, 128, 128, 16}, api.ErrBytes, 5},
			{[]byte{1, 1, 255, 255, 255, 255, 31}, api.ErrBytes, 6},
		},
		ofMemory: {
			{[]byte{2, 0}, api.ErrTag, 0}, {[]byte{255, 0}, api.ErrTag, 0}, {[]byte{0, 129, 128, 4}, api.ErrMany, 1}, {[]byte{1, 129, 128, 4, 129, 128, 4}, api.ErrMany, 1},
			{[]byte{1, 128, 128, 4, 129, 128, 4}, api.ErrMany, 4}, {[]byte{1, 1, 0}, api.ErrMany, 2}, {[]byte{0, 128, 128, 128, 128, 128}, api.ErrBytes, 5},
		},
		aList: {
			{[]byte{6, 11}, api.ErrOp, 0}, {[]byte{5, 11}, api.ErrOp, 0}, {[]byte{1, 255, 11}, api.ErrOp, 1}, {[]byte{2, 65, 11, 11}, api.ErrTag, 1}, {[]byte{63, 1, 11}, api.ErrTag, 1},
			{[]byte{4, 64, 5, 5, 11, 11}, api.ErrOp, 3}, {[]byte{65, 255, 255, 255, 255, 15, 11}, api.ErrBytes, 5}, {[]byte{16, 128, 128, 128, 128, 16, 11}, api.ErrBytes, 5},
			{[]byte{14, 129, 128, 1, 0, 11}, api.ErrMany, 1}, {deep, api.ErrMany, 1800},
		},
	}
	for kind, faults := range below {
		eachPiece(t, map[string]int{aType: 2, ofTable: 1, ofMemory: 1, aList: 6}[kind], func(l layout, k int) {
			for _, f := range faults {
				checkPiece(t, l, k, f.b, f.e, f.at)
			}
		}, kind)
	}
	many := append(bytes.Repeat([]byte{1}, 1<<18+1), 11)
	for _, l := range layouts() {
		for k, p := range l.pieces {
			if p.kind == aList {
				b := l.with(k, many)
				checkFault(t, "too many instructions", b, faultAt(api.ErrMany, bytes.Index(b, many)+1<<18))
			}
		}
	}
	for _, l := range []api.Limits{{Min: 1 << 20}, {Min: 1 << 20, Max: 1 << 20, Capped: true}, {Capped: true}} {
		checkIs(t, "the greatest table", encoded(api.Module{Tables: []api.Limits{l}}), api.Module{Tables: []api.Limits{l}})
	}
	for _, l := range []api.Limits{{Min: 65536}, {Max: 65536, Capped: true}, {Min: 65535, Max: 65536, Capped: true}} {
		checkIs(t, "the greatest memory", encoded(api.Module{Memories: []api.Limits{l}}), api.Module{Memories: []api.Limits{l}})
	}
	for _, text := range [][]byte{{0, 131, 0}, {0, 131, 128, 128, 128, 0}} {
		checkIs(t, "longer limits", headed(section(5, append([]byte{1}, text...)...)), api.Module{Memories: []api.Limits{{Min: 3}}})
	}
	checkIs(t, "a longer type", headed(section(1, 1, 96, 129, 0, 127, 128, 128, 0)), api.Module{Types: []api.FuncType{{Params: 1}}})
	checkIs(t, "a longer If", headed(section(6, 1, 127, 0, 4, 64, 5, 11, 65, 131, 0, 11)), api.Module{Globals: []api.Global{{Init: []api.Instr{{Op: api.OpIf}, {Op: api.OpConst, N: 3}}}}})
}
