package decode

import (
	"bytes"
	"slices"
	"strconv"
	"testing"

	"gimlet/api"
	"gimlet/leb"
)

// lists are the lists that may have 16,384 items: the section's bytes ahead of the count, those of an item, and a module with so many of them.
func lists() []struct {
	id    byte
	front []byte
	item  []byte
	m     func(n int) api.Module
} {
	return []struct {
		id    byte
		front []byte
		item  []byte
		m     func(n int) api.Module
	}{
		{1, nil, []byte{96, 0, 1, 127}, func(n int) api.Module {
			return api.Module{Types: slices.Repeat([]api.FuncType{{Results: 1}}, n)}
		}},
		{2, nil, []byte{1, 'm', 0, 0, 3}, func(n int) api.Module {
			return api.Module{Imports: slices.Repeat([]api.Import{{Module: "m", Type: 3}}, n)}
		}},
		{6, nil, []byte{127, 1, 11}, func(n int) api.Module {
			return api.Module{Globals: slices.Repeat([]api.Global{{Mut: true}}, n)}
		}},
		{7, nil, []byte{1, 'e', 2, 5}, func(n int) api.Module {
			return api.Module{Exports: slices.Repeat([]api.Export{{Name: "e", Kind: 2, Index: 5}}, n)}
		}},
		{9, nil, []byte{0, 11, 1, 7}, func(n int) api.Module {
			return api.Module{Elems: slices.Repeat([]api.Elem{{Funcs: []uint32{7}}}, n)}
		}},
		{9, []byte{1, 0, 11}, []byte{8}, func(n int) api.Module {
			return api.Module{Elems: []api.Elem{{Funcs: slices.Repeat([]uint32{8}, n)}}}
		}},
		{11, nil, []byte{0, 11, 1, 9}, func(n int) api.Module {
			return api.Module{Datas: slices.Repeat([]api.Data{{Bytes: []byte{9}}}, n)}
		}},
	}
}

func numbered(what string, n int) string { return what + " " + strconv.Itoa(n) }

// P9.2: numbers of items: 16,384 and one more, one more than there are, one less.
func TestCounts(t *testing.T) {
	t.Parallel()
	for _, l := range lists() {
		for _, n := range []int{0, 1, 2, 127, 128, 129, 16383, 16384} {
			all := bytes.Repeat(l.item, n)
			for _, count := range longer(uint32(n)) {
				checkIs(t, numbered("items:", n), headed(section(l.id, slices.Concat(l.front, count, all)...)), l.m(n))
			}
			if n < 16384 {
				own := slices.Concat(l.front, leb.PutU(uint32(n+1)), all)
				checkInside(t, numbered("one too few items:", n), nil, l.id, own, api.ErrBytes, len(own))
			}
			if n > 0 {
				own := slices.Concat(l.front, leb.PutU(uint32(n-1)), all)
				checkInside(t, numbered("one item left:", n), nil, l.id, own, api.ErrSize, len(own)-len(l.item))
			}
		}
		for _, n := range []uint32{16385, 16386, 1 << 15, 1<<16 + 1, 1<<21 + 1, 1 << 31, 1<<32 - 1} {
			for _, count := range longer(n) {
				for _, there := range []int{0, 1, 16384, 16385} {
					own := slices.Concat(l.front, count, bytes.Repeat(l.item, there))
					checkFault(t, numbered("too many items:", int(n)), headed(section(l.id, own...)), faultAt(api.ErrMany, 9+leb.SizeU(uint32(len(own)))+len(l.front)))
				}
				checkInside(t, "too many items", nil, l.id, append(slices.Clone(l.front), count...), api.ErrMany, len(l.front))
			}
		}
	}
}

// P9.2: functions and their codes: 16,384, and one more.
func TestFunctionCounts(t *testing.T) {
	t.Parallel()
	for _, n := range []int{0, 1, 2, 127, 128, 16383, 16384} {
		types := bytes.Repeat([]byte{4}, n)
		codes := bytes.Repeat([]byte{3, 0, 1, 11}, n)
		want := api.Module{Funcs: slices.Repeat([]api.Func{{Type: 4, Code: api.Code{L: nops(1)}}}, n)}
		for k, count := range longer(uint32(n)) {
			other := longer(uint32(n))[len(longer(uint32(n)))-1-k]
			checkIs(t, numbered("functions:", n), headed(section(3, append(count, types...)...), section(10, append(other, codes...)...)), want)
		}
	}
	for _, n := range []uint32{16385, 16386, 1 << 16, 1 << 31, 1<<32 - 1} {
		for _, count := range longer(n) {
			checkInside(t, "too many functions", nil, 3, count, api.ErrMany, 0)
			checkInside(t, "too many functions", nil, 3, append(slices.Clone(count), make([]byte, 16385)...), api.ErrMany, 0)
			// Too many codes are that ahead of another number than that of the functions.
			for _, funcs := range []int{0, 1, 16384} {
				front := section(3, append(leb.PutU(uint32(funcs)), make([]byte, funcs)...)...)
				checkInside(t, "too many codes", front, 10, count, api.ErrMany, 0)
			}
			checkInside(t, "too many codes, and no functions", nil, 10, append(slices.Clone(count), 2, 0, 11), api.ErrMany, 0)
		}
	}
}

// P9.2: one table, one memory.
func TestCountsOfOne(t *testing.T) {
	table, memory := []byte{112, 0, 5}, []byte{1, 2, 3}
	for _, count := range longer(1) {
		checkIs(t, "a table", headed(section(4, slices.Concat(count, table)...)), api.Module{Tables: []api.Limits{{Min: 5}}})
		checkIs(t, "a memory", headed(section(5, slices.Concat(count, memory)...)), api.Module{Memories: []api.Limits{{Min: 2, Max: 3, Capped: true}}})
	}
	for _, count := range longer(0) {
		checkIs(t, "no table, no memory", headed(section(4, count...), section(5, count...)), api.Module{})
	}
	checkInside(t, "a table left", nil, 4, slices.Concat([]byte{0}, table), api.ErrSize, 1)
	checkInside(t, "a memory left", nil, 5, slices.Concat([]byte{0}, memory), api.ErrSize, 1)
	for _, n := range []uint32{2, 3, 127, 128, 16384, 16385, 1 << 31, 1<<32 - 1} {
		for _, count := range longer(n) {
			for _, there := range []int{0, 1, 2, 3} {
				checkInside(t, "tables", nil, 4, slices.Concat(count, bytes.Repeat(table, there)), api.ErrMany, 0)
				checkInside(t, "memories", section(4, 1, 112, 0, 5), 5, slices.Concat(count, bytes.Repeat(memory, there)), api.ErrMany, 0)
			}
		}
	}
}

// P9.2: another number of codes than of functions.
func TestCodeCounts(t *testing.T) {
	t.Parallel()
	numbers := []int{0, 1, 2, 3, 127, 128, 256, 16383, 16384}
	for _, funcs := range numbers {
		front := section(3, append(leb.PutU(uint32(funcs)), make([]byte, funcs)...)...)
		for _, codes := range numbers {
			if codes == funcs {
				continue
			}
			for _, count := range longer(uint32(codes))[:2] {
				checkInside(t, "the count alone", front, 10, count, api.ErrCount, 0)
				b := headed(front, section(10, append(slices.Clone(count), bytes.Repeat([]byte{2, 0, 11}, codes)...)...))
				checkFault(t, "another number of codes", b, faultAt(api.ErrCount, len(b)-3*codes-len(count)))
			}
		}
		b := headed(front, empty(8), empty(11), section(0, 0))
		for _, end := range []int{8 + len(front), 8 + len(front) + 3, 8 + len(front) + 6, len(b)} {
			if funcs == 0 {
				checkIs(t, "no functions, no codes", b[:end], api.Module{Started: end > 8+len(front)})
			} else {
				checkFault(t, "no section 10", b[:end], faultAt(api.ErrCount, end))
			}
		}
	}
	for _, n := range []uint32{1, 2, 127, 128, 16384} {
		for _, count := range longer(n) {
			checkInside(t, "no section 3", nil, 10, count, api.ErrCount, 0)
			checkInside(t, "no section 3", empty(9), 10, append(slices.Clone(count), 2, 0, 11, 2, 0, 11), api.ErrCount, 0)
		}
	}
	for _, count := range longer(0) {
		checkIs(t, "no functions and no section 3", headed(section(10, count...)), api.Module{})
	}
	checkInside(t, "bytes left behind no codes", nil, 10, []byte{0, 2, 0, 11}, api.ErrSize, 1)
}

// P9.2: a code's size below the code, above it, and beyond the section's end.
func TestCodeSizes(t *testing.T) {
	t.Parallel()
	codes := []struct {
		b    []byte
		want api.Code
	}{
		{[]byte{0, 11}, api.Code{}},
		{[]byte{1, 5, 127, 65, 3, 26, 11}, api.Code{Locals: 5, L: []api.Instr{{Op: api.OpConst, N: 3}, {Op: api.OpDrop}}}},
		{[]byte{3, 1, 127, 0, 127, 130, 0, 127, 1, 11}, api.Code{Locals: 3, L: nops(1)}},
		{[]byte{128, 0, 4, 64, 1, 5, 11, 11}, api.Code{L: []api.Instr{{Op: api.OpIf, L: nops(1)}}}},
		{append([]byte{1, 208, 134, 3, 127}, append(bytes.Repeat([]byte{1}, 123), 11)...), api.Code{Locals: 50000, L: nops(123)}},
	}
	for _, c := range codes {
		for _, size := range longer(uint32(len(c.b)))[:3] {
			for _, p := range []struct{ ahead, behind []byte }{{}, {[]byte{2, 0, 11}, nil}, {nil, []byte{2, 0, 11}}} {
				want := []api.Func{{Code: c.want}}
				if p.ahead != nil {
					want = append([]api.Func{{}}, want...)
				}
				if p.behind != nil {
					want = append(want, api.Func{})
				}
				funcs := byte(len(want))
				front := section(3, append([]byte{funcs}, make([]byte, funcs)...)...)
				ahead := slices.Concat([]byte{funcs}, p.ahead, size)
				own := slices.Concat(ahead, c.b, p.behind)
				checkIs(t, "a code", headed(front, section(10, own...)), api.Module{Funcs: want})
				start := len(ahead) - len(size)
				for n := range c.b {
					for _, less := range longer(uint32(n))[:2] {
						own := slices.Concat(ahead[:start], less, c.b, p.behind)
						checkInside(t, "a size below", front, 10, own, api.ErrBytes, start+len(less)+n)
					}
				}
				for n := len(c.b) + 1; n <= len(c.b)+5; n++ {
					more := leb.PutU(uint32(n))
					own := slices.Concat(ahead[:start], more, c.b, p.behind)
					if len(p.behind) < n-len(c.b) {
						checkInside(t, "a size beyond the section", front, 10, own, api.ErrBytes, len(own))
					} else {
						checkInside(t, "a size above", front, 10, own, api.ErrSize, start+len(more)+len(c.b))
					}
				}
			}
		}
		for _, n := range []uint32{1 << 14, 1 << 20, 1 << 31, 1<<32 - 1} {
			own := slices.Concat([]byte{1}, leb.PutU(n), c.b)
			checkInside(t, "a size far beyond the section", section(3, 1, 0), 10, own, api.ErrBytes, len(own))
		}
		for _, left := range []int{1, 127, 128, 1000} {
			own := slices.Concat([]byte{1}, leb.PutU(uint32(len(c.b)+left)), c.b, bytes.Repeat([]byte{11}, left))
			checkInside(t, "bytes left in a code", section(3, 1, 0), 10, own, api.ErrSize, len(own)-left)
		}
	}
}

// P9.2: what body.GetCode refuses, in a code that is read by itself.
func TestCodeFaults(t *testing.T) {
	for _, p := range []struct {
		b  []byte
		e  api.Errno
		at int
	}{
		{[]byte{1, 1, 126, 11}, api.ErrTag, 2},
		{[]byte{2, 1, 127, 1, 64, 11}, api.ErrTag, 4},
		{[]byte{1, 209, 134, 3, 127, 11}, api.ErrMany, 1},
		{[]byte{2, 208, 134, 3, 127, 1, 127, 11}, api.ErrMany, 5},
		{[]byte{1, 255, 255, 255, 255, 15, 127, 11}, api.ErrMany, 1},
		{[]byte{255, 255, 255, 255, 16, 11}, api.ErrBytes, 4},
		{[]byte{1, 128, 128, 128, 128, 128, 127, 11}, api.ErrBytes, 5},
		{[]byte{255, 255, 255, 255, 15, 1, 127}, api.ErrBytes, 7},
		{[]byte{0, 5, 11}, api.ErrOp, 1},
		{[]byte{0, 1, 6, 11}, api.ErrOp, 2},
		{[]byte{0, 4, 65, 11, 11}, api.ErrTag, 2},
		{[]byte{0, 17, 0, 1, 11}, api.ErrTag, 3},
		{[]byte{0, 14, 129, 128, 1, 11}, api.ErrMany, 2},
		{[]byte{0, 65, 255, 255, 255, 255, 31, 11}, api.ErrBytes, 6},
		{[]byte{0, 2, 64, 11}, api.ErrBytes, 4},
		{[]byte{0, 1}, api.ErrBytes, 2},
		{[]byte{1}, api.ErrBytes, 1},
		{nil, api.ErrBytes, 0},
		{slices.Concat([]byte{0}, bytes.Repeat([]byte{2, 64}, 901), bytes.Repeat([]byte{11}, 902)), api.ErrMany, 1801},
	} {
		for _, size := range longer(uint32(len(p.b))) {
			own := slices.Concat([]byte{1}, size, p.b)
			checkInside(t, "a code alone", section(3, 1, 0), 10, own, p.e, 1+len(size)+p.at)
			own = slices.Concat([]byte{3, 2, 0, 11}, size, p.b, []byte{3, 0, 1, 11})
			checkInside(t, "a code among others", section(3, 3, 0, 0, 0), 10, own, p.e, 4+len(size)+p.at)
		}
	}
}
