package memory

import (
	"math"
	"slices"
	"testing"

	"gimlet/api"
)

// P12.2: each load, of bytes that are all unlike, and of both signs; what is written out here is what the chapter says, lowest byte first.
func TestLoad(t *testing.T) {
	m := must(t, api.Limits{Min: 1})
	if e := m.Write(100, []byte{0x01, 0x02, 0x03, 0x84, 0x7f, 0x80, 0xff, 0x7f, 0xff, 0xff, 0xff, 0xff, 0x00, 0x80, 0x00, 0x00}); e != api.OK {
		t.Fatal(e)
	}
	for _, c := range []struct {
		at                          uint32
		word, s16, u16, small, byte uint32
	}{
		{97, 0x01000000, 0, 0, 0, 0},
		{98, 0x02010000, 0, 0, 0, 0},
		{99, 0x03020100, 0x0100, 0x0100, 0, 0},
		{100, 0x84030201, 0x0201, 0x0201, 1, 1},
		{101, 0x7f840302, 0x0302, 0x0302, 2, 2},
		{102, 0x807f8403, 0xffff8403, 0x8403, 3, 3},
		{103, 0xff807f84, 0x7f84, 0x7f84, 0xffffff84, 0x84},
		{104, 0x7fff807f, 0xffff807f, 0x807f, 0x7f, 0x7f},
		{105, 0xff7fff80, 0xffffff80, 0xff80, 0xffffff80, 0x80},
		{106, 0xffff7fff, 0x7fff, 0x7fff, 0xffffffff, 0xff},
		{107, 0xffffff7f, 0xffffff7f, 0xff7f, 0x7f, 0x7f},
		{108, 0xffffffff, 0xffffffff, 0xffff, 0xffffffff, 0xff},
		{111, 0x008000ff, 0x00ff, 0x00ff, 0xffffffff, 0xff},
		{112, 0x00008000, 0xffff8000, 0x8000, 0, 0},
		{113, 0x00000080, 0x0080, 0x0080, 0xffffff80, 0x80},
		{114, 0, 0, 0, 0, 0},
	} {
		for op, want := range map[int]uint32{api.OpLoad: c.word, api.OpLoad16S: c.s16, api.OpLoad16U: c.u16, api.OpLoad8S: c.small, api.OpLoad8U: c.byte} {
			loadsAs(t, m, op, c.at, 0, want, api.OK)
			loadsAs(t, m, op, 0, c.at, want, api.OK)
			loadsAs(t, m, op, c.at-50, 50, want, api.OK)
		}
	}
}

// P12.2: every byte, and every two bytes, of the loads that extend a sign and of those that do not.
func TestLoadSigns(t *testing.T) {
	m := must(t, api.Limits{Min: 1})
	for v := range uint32(65536) {
		if e := m.Write(8, []byte{byte(v), byte(v >> 8), 0xa5, 0x5a}); e != api.OK {
			t.Fatal(e)
		}
		one, two := v%256, v
		if one >= 128 {
			one += 1<<32 - 256
		}
		if two >= 32768 {
			two += 1<<32 - 65536
		}
		loadsAs(t, m, api.OpLoad8U, 8, 0, v%256, api.OK)
		loadsAs(t, m, api.OpLoad8S, 8, 0, one, api.OK)
		loadsAs(t, m, api.OpLoad16U, 8, 0, v, api.OK)
		loadsAs(t, m, api.OpLoad16S, 8, 0, two, api.OK)
	}
}

// P12.2: each store, of words that have bits above what is stored; the bytes on either side stay.
func TestStore(t *testing.T) {
	const o = 9 // what all bytes are ahead
	for _, c := range []struct {
		op   int
		v    uint32
		want []byte
	}{
		{api.OpStore, 0, []byte{o, o, 0, 0, 0, 0, o, o}},
		{api.OpStore, 0x84030201, []byte{o, o, 1, 2, 3, 0x84, o, o}},
		{api.OpStore, 1 << 31, []byte{o, o, 0, 0, 0, 0x80, o, o}},
		{api.OpStore, math.MaxUint32, []byte{o, o, 255, 255, 255, 255, o, o}},
		{api.OpStore16, 0, []byte{o, o, 0, 0, o, o, o, o}},
		{api.OpStore16, 0x0201, []byte{o, o, 1, 2, o, o, o, o}},
		{api.OpStore16, 0x84030201, []byte{o, o, 1, 2, o, o, o, o}},
		{api.OpStore16, 0xffff0000, []byte{o, o, 0, 0, o, o, o, o}},
		{api.OpStore16, 0x10000, []byte{o, o, 0, 0, o, o, o, o}},
		{api.OpStore16, 0xffff8000, []byte{o, o, 0, 0x80, o, o, o, o}},
		{api.OpStore16, math.MaxUint32, []byte{o, o, 255, 255, o, o, o, o}},
		{api.OpStore8, 0, []byte{o, o, 0, o, o, o, o, o}},
		{api.OpStore8, 1, []byte{o, o, 1, o, o, o, o, o}},
		{api.OpStore8, 0x84030201, []byte{o, o, 1, o, o, o, o, o}},
		{api.OpStore8, 0xffffff00, []byte{o, o, 0, o, o, o, o, o}},
		{api.OpStore8, 0x100, []byte{o, o, 0, o, o, o, o, o}},
		{api.OpStore8, 0xffffff80, []byte{o, o, 0x80, o, o, o, o, o}},
		{api.OpStore8, math.MaxUint32, []byte{o, o, 255, o, o, o, o, o}},
	} {
		m := must(t, api.Limits{Min: 3})
		for _, at := range []uint32{2, 3, 1000, 65530, 65533, 65534, 65535, 65536, 65537, 131071, 131072, 196602} {
			ahead := slices.Repeat([]byte{o}, 8)
			if e := m.Write(at-2, ahead); e != api.OK {
				t.Fatal(e)
			}
			storesAs(t, m, c.op, at, 0, c.v, api.OK)
			reads(t, "stored", m, at-2, c.want...)
			m.Write(at-2, ahead)
			storesAs(t, m, c.op, 1, at-1, c.v, api.OK)
			reads(t, "stored with an offset", m, at-2, c.want...)
			m.Write(at-2, ahead)
		}
	}
}

// P12.2: what is not an operation of the kind asked is ErrArg, where there are such bytes and where there are none, and changes nothing.
func TestNoSuchOperation(t *testing.T) {
	for pages := range uint32(3) {
		m, r := filled(t, api.Limits{Min: pages})
		end := pages * pageBytes
		for _, at := range []uint32{0, 8, end - 4, end - 1, end, 1 << 31, math.MaxUint32} {
			for _, offset := range []uint32{0, 4, math.MaxUint32} {
				for _, op := range append(strangers(), numbers(stores())...) {
					loadsAs(t, m, op, at, offset, 0, api.ErrArg)
				}
				for _, op := range append(strangers(), numbers(loads())...) {
					storesAs(t, m, op, at, offset, 0, api.ErrArg)
				}
			}
		}
		sameAs(t, "nothing was stored", m, r)
	}
}
