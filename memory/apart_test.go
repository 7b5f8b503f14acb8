package memory

import (
	"bytes"
	"slices"
	"sync"
	"testing"

	"gimlet/api"
)

// lengths are of bytes within a page, and across pages, from a place ahead of the first page's end.
func lengths() []uint32 { return []uint32{0, 1, 4, 8, 9, 65536, 65537, 65545, 140000} }

const nearEnd = 65528

// Rule 4: what Read returns is changed later, with the room behind it; neither the memory nor what other calls return changes.
func TestReadApart(t *testing.T) {
	for _, n := range lengths() {
		m, r := filled(t, api.Limits{Min: 4})
		one, e := m.Read(nearEnd, n)
		other, err := m.Read(nearEnd, n)
		if e != api.OK || err != api.OK {
			t.Fatal(e, err)
		}
		room := one[:cap(one)]
		for k := range room {
			room[k] = 0
		}
		if !bytes.Equal(other, r.b[nearEnd:nearEnd+n]) {
			t.Errorf("%d bytes that were read are also others", n)
		}
		sameAs(t, "what was read was changed", m, r)
	}
}

// Rule 4: what Read returned stays as it was when the memory changes, of pages that were written and of others.
func TestReadStays(t *testing.T) {
	for _, written := range []bool{true, false} {
		for _, n := range lengths() {
			m, r := filled(t, api.Limits{Min: 4})
			if !written {
				m, r = must(t, api.Limits{Min: 4}), newRow(api.Limits{Min: 4})
			}
			b, _ := m.Read(nearEnd, n)
			want := slices.Clone(r.b[nearEnd : nearEnd+n])
			m.Write(0, bytes.Repeat([]byte{0xee}, 4*pageBytes))
			m.Store(api.OpStore, nearEnd, 0, 0xdddddddd)
			m.Grow(1)
			if !bytes.Equal(b, want) {
				t.Errorf("%d bytes that were read change with the memory", n)
			}
		}
	}
}

// Rule 4: what is handed to Write stays as it was, with the room behind it, which is not written to the memory; it may be changed later.
func TestWriteApart(t *testing.T) {
	d := dice(3)
	for _, n := range lengths() {
		for _, at := range []uint32{0, nearEnd, 65536} {
			m, r := filled(t, api.Limits{Min: 4})
			room := d.bytes(int(n) + 40)
			b, ahead := room[20:20+n], slices.Clone(room)
			if e := m.Write(at, b); e != api.OK || r.write(at, b) != api.OK {
				t.Fatal(e)
			}
			if !bytes.Equal(room, ahead) {
				t.Errorf("Write of %d bytes changes them, or others around them", n)
			}
			sameAs(t, "written", m, r)
			clear(room)
			sameAs(t, "what was written was changed", m, r)
			m.Write(at, bytes.Repeat([]byte{0xee}, int(n)))
			m.Store(api.OpStore, at, 0, 0xdddddddd)
			if len(bytes.Trim(room, "\x00")) != 0 {
				t.Errorf("%d bytes that were written change with the memory", n)
			}
		}
	}
	// Nor is anything changed by a Write that is refused.
	m := must(t, api.Limits{Min: 1})
	room := d.bytes(30)
	ahead := slices.Clone(room)
	if e := m.Write(65530, room[10:20]); e != api.ErrBounds || !bytes.Equal(room, ahead) {
		t.Errorf("Write refused: %v, %v; they were %v", e, room, ahead)
	}
	sameAs(t, "refused", m, newRow(api.Limits{Min: 1}))
}

// One slice written twice, to pages that nothing was written to, does not make them one.
func TestPagesApart(t *testing.T) {
	limits := api.Limits{Min: 5}
	m, r := must(t, limits), newRow(limits)
	l := bytes.Repeat([]byte{7}, pageBytes)
	for _, at := range []uint32{0, 2 * pageBytes, 3 * pageBytes} {
		m.Write(at, l)
		r.write(at, l)
	}
	for k, at := range []uint32{5, 3*pageBytes + 5, 4*pageBytes + 5} {
		storesAs(t, m, api.OpStore8, at, 0, uint32(k), api.OK)
		r.b[at] = byte(k)
	}
	sameAs(t, "pages", m, r)
}

// Two memories share nothing: neither bytes, nor how many pages there are, or may be.
func TestTwoMemories(t *testing.T) {
	limits := api.Limits{Min: 2, Max: 3, Capped: true}
	m, r := must(t, limits), newRow(limits)
	other, empty := must(t, limits), newRow(limits)
	wide := must(t, api.Limits{Min: 2})
	for k, at := range []uint32{0, 8, 65534, 131068} {
		v := uint32(k+1) * 0x01020304
		storesAs(t, m, api.OpStore, at, 0, v, api.OK)
		r.store(stores()[0], at, 0, v)
		m.Write(at+70, []byte{1, 2, 3})
		r.write(at+70, []byte{1, 2, 3})
	}
	sameAs(t, "the other one", other, empty)
	sameAs(t, "the third one", wide, empty)
	grows(t, m, 1, 2, 3)
	r.grow(1)
	sameAs(t, "the other one", other, empty)
	grows(t, other, 1, 2, 3)
	grows(t, other, 1, 1<<32-1, 3)
	grows(t, wide, 2, 2, 4)
	storesAs(t, other, api.OpStore, 8, 0, 5, api.OK)
	sameAs(t, "the first one", m, r)
	sameAs(t, "a new one", must(t, limits), newRow(limits))
}

// Memories of their own, used at the same time: what is answered hangs on each one alone.
func TestAtOnce(t *testing.T) {
	var all sync.WaitGroup
	for n := range 8 {
		all.Go(func() {
			m, e := New(api.Limits{Min: 3})
			d := dice(n)
			for range 2000 {
				at, v := uint32(d.below(3*pageBytes-4)), uint32(d.below(1<<31))
				if e == api.OK {
					e = m.Store(api.OpStore, at, 0, v)
				}
				if got, err := m.Load(api.OpLoad, 0, at); got != v || e != api.OK || err != api.OK {
					t.Errorf("at %d: %d, %v, %v; want %d", at, got, e, err, v)
				}
			}
		})
	}
	all.Wait()
}
