package memory

import (
	"bytes"
	"math"
	"testing"

	"gimlet/api"
)

// sums are pairs of an address and an offset whose sum is start, which may be any number below 2^33.
func sums(start int64) [][2]uint32 {
	var out [][2]uint32
	for _, at := range []int64{0, 1, 3, 65535, 65536, start / 2, start - 65536, start - 4, start - 1, start, 1<<31 - 1, 1 << 31, math.MaxUint32} {
		if rest := start - at; at >= 0 && at <= math.MaxUint32 && rest >= 0 && rest <= math.MaxUint32 {
			out = append(out, [2]uint32{uint32(at), uint32(rest)})
		}
	}
	return out
}

// around are places at the edges of a memory's pages, at its end, and far beyond: those too which are in it modulo 2^32, 2^31 or 2^16.
func around(pages int) []int64 {
	var out []int64
	near := func(at int64) {
		for d := int64(-6); d <= 6; d++ {
			if at+d >= 0 {
				out = append(out, at+d)
			}
		}
	}
	for k := range pages + 2 {
		near(int64(k) * pageBytes)
	}
	end := int64(pages) * pageBytes
	for _, turn := range []int64{1 << 31, 1 << 32, 3 << 31} {
		near(turn)
		near(turn + 100)
		near(turn + end)
	}
	return append(out, end/2, 2*math.MaxUint32-1, 2*math.MaxUint32)
}

// P12.2, each load: its last byte the last one there is and one beyond it, words across two pages, sums above 2^32.
func TestLoadEdges(t *testing.T) {
	for pages := range 5 {
		m, r := filled(t, api.Limits{Min: uint32(pages)})
		for _, o := range loads() {
			for _, start := range around(pages) {
				for _, p := range sums(start) {
					want, e := r.load(o, p[0], p[1])
					if (e == api.OK) != (start+int64(o.bytes) <= int64(pages)*pageBytes) {
						t.Fatalf("the second reading is wrong at %d", start)
					}
					loadsAs(t, m, o.op, p[0], p[1], want, e)
				}
			}
		}
		sameAs(t, "loads change nothing", m, r)
	}
}

// P12.2, each store, in the same way: the bytes around it, and all of them in the end.
func TestStoreEdges(t *testing.T) {
	for pages := range 5 {
		m, r := filled(t, api.Limits{Min: uint32(pages)})
		v := uint32(0x8badf00d)
		for _, o := range stores() {
			for _, start := range around(pages) {
				for _, p := range sums(start) {
					v = v*1664525 + 1013904223
					storesAs(t, m, o.op, p[0], p[1], v, r.store(o, p[0], p[1], v))
					window(t, m, r, start)
				}
			}
			sameAs(t, "stored", m, r)
		}
	}
}

// window holds the bytes around a place, as far as they exist, against those of a row.
func window(t *testing.T, m *Memory, r *row, at int64) {
	t.Helper()
	end := int64(len(r.b))
	from, to := max(min(at, end)-10, 0), min(at+10, end)
	b, e := m.Read(uint32(from), uint32(to-from))
	if e != api.OK || !bytes.Equal(b, r.b[from:to]) {
		t.Fatalf("from %d on %v, %v; want %v", from, b, e, r.b[from:to])
	}
}

// The last bytes of a memory of 2^32 of them: the sum of address and offset is not modulo anything there either.
func TestFull(t *testing.T) {
	m := must(t, api.Limits{Min: 65536})
	const last = math.MaxUint32
	if e := m.Write(0, []byte{1, 2, 3, 4, 5}); e != api.OK {
		t.Fatal(e)
	}
	if e := m.Write(last-4, []byte{11, 12, 13, 14, 0x8f}); e != api.OK {
		t.Fatal(e)
	}
	for _, c := range []struct {
		op    int
		start int64
		want  uint32
		e     api.Errno
	}{
		{api.OpLoad, whole - 5, 0x0e0d0c0b, api.OK}, {api.OpLoad, whole - 4, 0x8f0e0d0c, api.OK}, {api.OpLoad, whole - 3, 0, api.ErrBounds}, {api.OpLoad, whole - 1, 0, api.ErrBounds},
		{api.OpLoad16S, whole - 2, 0xffff8f0e, api.OK}, {api.OpLoad16S, whole - 1, 0, api.ErrBounds},
		{api.OpLoad16U, whole - 2, 0x8f0e, api.OK}, {api.OpLoad16U, whole - 1, 0, api.ErrBounds},
		{api.OpLoad8S, whole - 1, 0xffffff8f, api.OK}, {api.OpLoad8S, whole, 0, api.ErrBounds},
		{api.OpLoad8U, whole - 1, 0x8f, api.OK}, {api.OpLoad8U, whole, 0, api.ErrBounds}, {api.OpLoad8U, whole + 1, 0, api.ErrBounds},
		{api.OpLoad, whole, 0, api.ErrBounds}, {api.OpLoad, whole + 1, 0, api.ErrBounds}, {api.OpLoad, 2*whole - 2, 0, api.ErrBounds},
	} {
		for _, p := range sums(c.start) {
			loadsAs(t, m, c.op, p[0], p[1], c.want, c.e)
		}
	}
	for _, o := range stores() {
		for _, start := range []int64{whole - int64(o.bytes) + 1, whole - 1 + int64(o.bytes), whole, whole + 1, whole + 65536, 2*whole - 2} {
			if start+int64(o.bytes) <= whole {
				continue
			}
			for _, p := range sums(start) {
				storesAs(t, m, o.op, p[0], p[1], 0x55555555, api.ErrBounds)
			}
		}
	}
	reads(t, "nothing was stored", m, last-4, 11, 12, 13, 14, 0x8f)
	reads(t, "nothing was stored", m, 0, 1, 2, 3, 4, 5, 0)
	storesAs(t, m, api.OpStore8, last, 0, 0x21, api.OK)
	storesAs(t, m, api.OpStore16, 1, last-4, 0x2223, api.OK)
	reads(t, "stored", m, last-4, 11, 0x23, 0x22, 14, 0x21)
	storesAs(t, m, api.OpStore, last-3, 0, 0x31323334, api.OK)
	reads(t, "stored", m, last-5, 0, 11, 0x34, 0x33, 0x32, 0x31)
}
