package memory

import (
	"bytes"
	"math"
	"testing"

	"gimlet/api"
)

// P12.3: no byte, one byte, bytes within a page, across two of them and across several, at every edge, and one beyond.
func TestReadWriteEdges(t *testing.T) {
	d := dice(1)
	for pages := range 5 {
		m, r := filled(t, api.Limits{Min: uint32(pages)})
		for _, at := range around(pages) {
			if at > math.MaxUint32 {
				continue
			}
			for _, n := range []int{0, 1, 2, 5, 6, 7, 12, 13, 65535, 65536, 65537, 131071, 131072, 131073, 200000, 262144, 262145} {
				want, fault := r.read(uint32(at), uint32(n))
				if b, e := m.Read(uint32(at), uint32(n)); e != fault || !bytes.Equal(b, want) {
					t.Fatalf("%d pages: Read(%d, %d) = %d bytes, %v; want %d, %v", pages, at, n, len(b), e, len(want), fault)
				}
				if n > 13 && at%pageBytes > 1 && at%pageBytes < 65535 {
					continue // long ones at some places only
				}
				l := d.bytes(n)
				if e := m.Write(uint32(at), l); e != r.write(uint32(at), l) {
					t.Fatalf("%d pages: Write(%d, %d bytes) = %v", pages, at, n, e)
				}
				window(t, m, r, at)
				window(t, m, r, at+int64(n))
			}
		}
		sameAs(t, "written", m, r)
	}
}

// P12.3: no byte exists at the end, and none one beyond it.
func TestNothingAtTheEnd(t *testing.T) {
	for pages := range uint32(4) {
		m := must(t, api.Limits{Min: pages})
		end := pages * pageBytes
		for _, c := range []struct {
			at uint32
			e  api.Errno
		}{{0, api.OK}, {end / 2, api.OK}, {end, api.OK}, {end + 1, api.ErrBounds}, {end + 65536, api.ErrBounds}, {1 << 31, api.ErrBounds}, {math.MaxUint32, api.ErrBounds}} {
			if b, e := m.Read(c.at, 0); len(b) != 0 || e != c.e {
				t.Errorf("%d pages: Read(%d, 0) = %v, %v; want %v", pages, c.at, b, e, c.e)
			}
			for _, none := range [][]byte{nil, {}, make([]byte, 0, 8)} {
				if e := m.Write(c.at, none); e != c.e {
					t.Errorf("%d pages: Write(%d, nothing) = %v; want %v", pages, c.at, e, c.e)
				}
			}
		}
	}
}

// P12.3: at most 2^20 bytes are read at once; that they do not exist comes ahead of there being more.
func TestReadMost(t *testing.T) {
	const most = 1 << 20
	for _, c := range []struct {
		pages, at, n uint32
		e            api.Errno
	}{
		{16, 0, most, api.OK},
		{16, 0, most + 1, api.ErrBounds},
		{16, 1, most, api.ErrBounds},
		{16, most, 0, api.OK},
		{16, most, most + 1, api.ErrBounds},
		{17, 0, most, api.OK},
		{17, 65536, most, api.OK},
		{17, 65537, most, api.ErrBounds},
		{17, 65535, most, api.OK},
		{17, 3, most - 1, api.OK},
		{17, 0, most + 1, api.ErrArg},
		{17, 65535, most + 1, api.ErrArg},
		{17, 65536, most + 1, api.ErrBounds},
		{17, 0, 17 * pageBytes, api.ErrArg},
		{17, 0, 17*pageBytes + 1, api.ErrBounds},
		{17, 0, 1 << 31, api.ErrBounds},
		{17, 0, math.MaxUint32, api.ErrBounds},
		{0, 0, most + 1, api.ErrBounds},
		{0, 0, 1, api.ErrBounds},
		{1, 0, most + 1, api.ErrBounds},
		// at and n have a sum above 2^32, which is small modulo 2^32.
		{1, math.MaxUint32, 1, api.ErrBounds},
		{1, math.MaxUint32, 2, api.ErrBounds},
		{1, 16, math.MaxUint32, api.ErrBounds},
		{1, 16, math.MaxUint32 - 15, api.ErrBounds},
		{1, 1 << 31, 1 << 31, api.ErrBounds},
		{1, 1<<32 - most, most, api.ErrBounds},
		{17, 1<<32 - most, most + 1, api.ErrBounds},
		{17, math.MaxUint32, math.MaxUint32, api.ErrBounds},
		{65536, 0, math.MaxUint32, api.ErrArg},
		{65536, 1, math.MaxUint32, api.ErrArg},
		{65536, 2, math.MaxUint32, api.ErrBounds},
		{65536, math.MaxUint32, 0, api.OK},
		{65536, math.MaxUint32, 1, api.OK},
		{65536, math.MaxUint32, 2, api.ErrBounds},
		{65536, 1<<32 - most, most, api.OK},
		{65536, 1<<32 - most - 1, most + 1, api.ErrArg},
		{65536, 1<<32 - most, most + 1, api.ErrBounds},
	} {
		m := must(t, api.Limits{Min: c.pages})
		want := int(c.n)
		if c.e != api.OK {
			want = 0
		}
		b, e := m.Read(c.at, c.n)
		if len(b) != want || e != c.e || len(bytes.Trim(b, "\x00")) != 0 {
			t.Errorf("%d pages: Read(%d, %d) = %d bytes, %v; want %d, %v", c.pages, c.at, c.n, len(b), e, want, c.e)
		}
	}
}

// P12.3: Write has no bound but the memory's own; where not all bytes exist none is written.
func TestWriteMost(t *testing.T) {
	const most = 1 << 20
	d := dice(2)
	l := d.bytes(2*most + 5)
	for _, c := range []struct {
		pages, at uint32
		n         int
		e         api.Errno
	}{
		{16, 0, most, api.OK},
		{16, 0, most + 1, api.ErrBounds},
		{16, 1, most, api.ErrBounds},
		{17, 0, most + 1, api.OK},
		{17, 65535, most + 1, api.OK},
		{17, 65536, most + 1, api.ErrBounds},
		{33, 7, 2*most + 5, api.OK},
		{33, 65531, 2*most + 5, api.OK},
		{33, 65532, 2*most + 5, api.ErrBounds},
		{1, math.MaxUint32, 2, api.ErrBounds},
		{1, math.MaxUint32 - 10, 20, api.ErrBounds},
		{1, 1<<32 - most, most + 5, api.ErrBounds},
		{0, 0, 1, api.ErrBounds},
		{0, 0, 0, api.OK},
	} {
		limits := api.Limits{Min: c.pages}
		m, r := must(t, limits), newRow(limits)
		if e := m.Write(c.at, l[:c.n]); e != c.e || r.write(c.at, l[:c.n]) != c.e {
			t.Errorf("%d pages: Write(%d, %d bytes) = %v; want %v", c.pages, c.at, c.n, e, c.e)
		}
		sameAs(t, "written", m, r)
	}
	full := must(t, api.Limits{Min: 65536})
	for _, c := range []struct {
		at uint32
		n  int
		e  api.Errno
	}{{1<<32 - 70000, 70001, api.ErrBounds}, {1<<32 - 70000, 70000, api.OK}, {math.MaxUint32, 2, api.ErrBounds}, {math.MaxUint32, 1, api.OK}} {
		if e := full.Write(c.at, l[:c.n]); e != c.e {
			t.Errorf("65,536 pages: Write(%d, %d bytes) = %v; want %v", c.at, c.n, e, c.e)
		}
	}
	l[69999] = l[0]
	if b, e := full.Read(1<<32-70000, 70000); e != api.OK || !bytes.Equal(b, l[:70000]) {
		t.Errorf("the last bytes of 65,536 pages: %v", e)
	}
	reads(t, "the first bytes", full, 0, 0, 0, 0, 0)
}
