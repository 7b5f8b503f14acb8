package exec

import (
	"bytes"
	"math"
	"slices"
	"testing"

	"gimlet/api"
	"gimlet/memory"
)

func loads() []int {
	return []int{api.OpLoad, api.OpLoad8S, api.OpLoad8U, api.OpLoad16S, api.OpLoad16U}
}

func stores() []int { return []int{api.OpStore, api.OpStore8, api.OpStore16} }

func data() []byte {
	b := make([]byte, pageBytes)
	for k := range b {
		b[k] = byte(k*7 + k/256 + 129)
	}
	return b
}

// spots are addresses and offsets: at the memory's beginning, at its end, beyond it, and such whose sum is in it modulo 2^32.
func spots() [][2]uint32 {
	var all [][2]uint32
	for _, sum := range []int64{0, 1, 2, 255, 4096, pageBytes - 5, pageBytes - 4, pageBytes - 3, pageBytes - 2, pageBytes - 1, pageBytes, pageBytes + 1, 1 << 31, 1<<32 - 1, 1 << 32, 1<<32 + 8, 2*math.MaxUint32 - 1, 2 * math.MaxUint32} {
		for _, address := range []int64{0, 1, sum / 2, sum - 1, sum, pageBytes - 1, 1 << 31, math.MaxUint32} {
			if rest := sum - address; address >= 0 && address <= math.MaxUint32 && rest >= 0 && rest <= math.MaxUint32 {
				all = append(all, [2]uint32{uint32(address), uint32(rest)})
			}
		}
	}
	return all
}

// Loads: those of memory, of the address that is taken and B.
func TestLoads(t *testing.T) {
	mem, _ := memory.New(api.Limits{Min: 1})
	mem.Write(0, data())
	for _, o := range loads() {
		for _, s := range spots() {
			m := module(typeBoth, 0, word(1000), get(0), at(o, s[1]), op(api.OpAdd))
			m.Datas = []api.Data{{Offset: code(word(0)), Bytes: data()}}
			want, e := mem.Load(o, s[0], s[1])
			if e == api.OK {
				returns(t, "a load", m, 4, 1000+want, s[0])
			} else {
				falls(t, "a load", m, 3, e, s[0])
			}
		}
	}
}

// Stores: the value is taken first, from above, then the address; a trap changes nothing.
func TestStores(t *testing.T) {
	for _, o := range stores() {
		for _, s := range spots() {
			mem, _ := memory.New(api.Limits{Min: 1})
			mem.Write(0, data())
			m := module(typeBoth, 0, word(1000), get(0), word(0x12345678), at(o, s[1]))
			m.Datas = []api.Data{{Offset: code(word(0)), Bytes: data()}}
			p := placed(t, m)
			x := on(t, p, "")
			x.Call("f", []uint32{s[0]})
			stepAs(t, x, 9, 4)
			if e := mem.Store(o, s[0], s[1], 0x12345678); e == api.OK {
				outcomeAs(t, "a store", x, api.Outcome{How: api.Done, Results: []uint32{1000}, Steps: 4})
			} else {
				outcomeAs(t, "a store", x, api.Outcome{How: api.Fallen, Trap: api.ErrBounds, Steps: 4})
			}
			got, _ := p.Memory().Read(0, pageBytes)
			want, _ := mem.Read(0, pageBytes)
			if !bytes.Equal(got, want) {
				t.Errorf("a store of %d at %d and %d: other bytes", o, s[0], s[1])
			}
		}
	}
}

// How a load is aligned changes nothing.
func TestAligned(t *testing.T) {
	for a := range uint32(3) {
		store, load := api.Instr{Op: api.OpStore, A: a, B: 1}, api.Instr{Op: api.OpLoad, A: a, B: 2}
		returns(t, "aligned", leaving(word(2), word(0x12345678), store, word(1), load), 5, 0x12345678)
		returns(t, "aligned", leaving(word(1), word(0x12345678), store, word(1), load), 5, 0x123456)
	}
}

// Size and Grow: pages; 2^32 - 1 where there would be too many, and then nothing is changed.
func TestGrow(t *testing.T) {
	x := must(t, module(typeBoth, 0, get(0), op(api.OpGrow)), "")
	sizes := must(t, leaving(op(api.OpSize)), "")
	callAs(t, sizes, "f", nil, api.OK)
	stepAs(t, sizes, 9, 1)
	outcomeAs(t, "size", sizes, api.Outcome{How: api.Done, Results: []uint32{1}, Steps: 1})
	for k, c := range [][2]uint32{{0, 1}, {1, 1}, {2, 1<<32 - 1}, {math.MaxUint32, 1<<32 - 1}, {0, 2}, {1, 2}, {1, 1<<32 - 1}, {0, 3}} {
		callAs(t, x, "f", []uint32{c[0]}, api.OK)
		stepAs(t, x, 9, 2)
		outcomeAs(t, "grow", x, api.Outcome{How: api.Done, Results: []uint32{c[1]}, Steps: 2 * (k + 1)})
	}
	// Size is asked of what the memory is at that step; what has grown can be loaded.
	returns(t, "sizes", leaving(op(api.OpSize), word(2), op(api.OpGrow), op(api.OpDrop), op(api.OpSize), word(10), op(api.OpMul), op(api.OpAdd)), 8, 31)
	returns(t, "refused", leaving(word(3), op(api.OpGrow), op(api.OpDrop), op(api.OpSize)), 4, 1)
	returns(t, "what has grown", leaving(word(1), op(api.OpGrow), op(api.OpDrop), word(pageBytes-2), at(api.OpLoad, 0)), 5, 0)
	falls(t, "what has not", leaving(word(3), op(api.OpGrow), op(api.OpDrop), word(pageBytes-2), at(api.OpLoad, 0)), 5, api.ErrBounds)
	returns(t, "on words", leaving(word(40), word(1), op(api.OpGrow), op(api.OpAdd)), 4, 41)
}

// The memory is the place's own: bytes that are written from outside, between steps, are loaded; what is stored is read.
func TestMemoryShared(t *testing.T) {
	p := placed(t, leaving(word(8), word(5), op(api.OpStore), word(8), op(api.OpLoad), op(api.OpSize), op(api.OpAdd)))
	x := on(t, p, "")
	callAs(t, x, "f", nil, api.OK)
	stepAs(t, x, 3, 3)
	if b, _ := p.Memory().Read(8, 4); !slices.Equal(b, []byte{5, 0, 0, 0}) {
		t.Errorf("stored: %v", b)
	}
	p.Memory().Write(9, []byte{1})
	p.Memory().Grow(2)
	stepAs(t, x, 9, 4)
	outcomeAs(t, "changed between", x, api.Outcome{How: api.Done, Results: []uint32{5 + 256 + 3}, Steps: 7})
}
