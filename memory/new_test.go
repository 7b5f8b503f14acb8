package memory

import (
	"math"
	"testing"

	"gimlet/api"
	"gimlet/kind"
)

// P12.1: limits that are not valid within 65,536 pages.
func TestNewRefused(t *testing.T) {
	for _, l := range []api.Limits{
		{Min: 65537},
		{Min: 1 << 31},
		{Min: math.MaxUint32},
		{Min: 65537, Max: 65537, Capped: true},
		{Min: 65537, Max: 65536, Capped: true},
		{Min: 0, Max: 65537, Capped: true},
		{Min: 65536, Max: 65537, Capped: true},
		{Min: 1, Max: math.MaxUint32, Capped: true},
		{Min: 1, Max: 0, Capped: true},
		{Min: 4, Max: 3, Capped: true},
		{Min: 65536, Max: 65535, Capped: true},
		{Min: math.MaxUint32, Max: math.MaxUint32, Capped: true},
		{Min: math.MaxUint32, Capped: true},
		{Max: 1},
		{Min: 1, Max: 1},
		{Min: 1, Max: 2},
		{Min: 65536, Max: 65536},
		{Min: 2, Max: math.MaxUint32},
	} {
		if m, e := New(l); m != nil || e != api.ErrArg {
			t.Errorf("New(%+v) = %v, %v", l, m, e)
		}
	}
}

// P12.1: limits that are just valid; and New agrees with kind.CheckLimits at every edge.
func TestNew(t *testing.T) {
	edges := []uint32{0, 1, 2, 3, 255, 256, 65534, 65535, 65536, 65537, 65538, 131072, 1 << 31, math.MaxUint32 - 1, math.MaxUint32}
	allowed := 0
	for _, least := range edges {
		for _, most := range edges {
			for _, capped := range []bool{false, true} {
				l := api.Limits{Min: least, Max: most, Capped: capped}
				want := kind.CheckLimits(l, 65536)
				m, e := New(l)
				if e != want || (m == nil) != (want != api.OK) {
					t.Errorf("New(%+v) = %v, %v; want %v", l, m, e, want)
				}
				if want == api.OK {
					allowed++
					holdsMost(t, m, l)
				} else if m.Pages() != 0 {
					t.Errorf("New(%+v) refused has %d pages", l, m.Pages())
				}
			}
		}
	}
	if allowed != 9+45 {
		t.Errorf("%d limits are allowed", allowed)
	}
}

// holdsMost asks a memory that is new how many pages it has, and how many it may have.
func holdsMost(t *testing.T, m *Memory, l api.Limits) {
	t.Helper()
	most := uint32(65536)
	if l.Capped {
		most = l.Max
	}
	if m.Pages() != l.Min {
		t.Errorf("New(%+v) has %d pages", l, m.Pages())
	}
	grows(t, m, most-l.Min+1, math.MaxUint32, l.Min)
	grows(t, m, most-l.Min, l.Min, most)
	grows(t, m, 1, math.MaxUint32, most)
	grows(t, m, 0, most, most)
}

// P12.1: there are the bytes of as many pages as Min says, and no more; all of them are 0.
func TestNewPages(t *testing.T) {
	for _, l := range []api.Limits{
		{},
		{Capped: true},
		{Max: 5, Capped: true},
		{Min: 1},
		{Min: 1, Max: 1, Capped: true},
		{Min: 1, Max: 65536, Capped: true},
		{Min: 3},
		{Min: 3, Max: 4, Capped: true},
		{Min: 20},
	} {
		m := must(t, l)
		sameAs(t, "a new memory", m, newRow(l))
		end := l.Min * pageBytes
		if b, e := m.Read(end, 1); len(b) != 0 || e != api.ErrBounds {
			t.Errorf("New(%+v): Read(%d, 1) = %v, %v", l, end, b, e)
		}
		if e := m.Write(end, []byte{1}); e != api.ErrBounds {
			t.Errorf("New(%+v): Write at %d: %v", l, end, e)
		}
	}
}

// P12.1: every number of pages that Grow may be asked for, below, at and above what there may be, one after the other.
func TestGrow(t *testing.T) {
	const no = math.MaxUint32
	for _, c := range []struct {
		l     api.Limits
		steps [][3]uint32 // how many more, what is returned, how many there are then
	}{
		{api.Limits{}, [][3]uint32{{0, 0, 0}, {1, 0, 1}, {65536, no, 1}, {65535, 1, 65536}, {0, 65536, 65536}, {1, no, 65536}}},
		{api.Limits{Capped: true}, [][3]uint32{{0, 0, 0}, {1, no, 0}, {no, no, 0}, {0, 0, 0}}},
		{api.Limits{Max: 1, Capped: true}, [][3]uint32{{2, no, 0}, {1, 0, 1}, {1, no, 1}, {0, 1, 1}}},
		{api.Limits{Min: 1, Max: 1, Capped: true}, [][3]uint32{{0, 1, 1}, {1, no, 1}, {0, 1, 1}, {no, no, 1}, {0, 1, 1}}},
		{api.Limits{Min: 1, Max: 4, Capped: true}, [][3]uint32{{4, no, 1}, {2, 1, 3}, {2, no, 3}, {1, 3, 4}, {1, no, 4}, {0, 4, 4}}},
		{api.Limits{Min: 2, Max: 65536, Capped: true}, [][3]uint32{{65535, no, 2}, {65534, 2, 65536}, {1, no, 65536}, {0, 65536, 65536}}},
		{api.Limits{Min: 1}, [][3]uint32{{65536, no, 1}, {1, 1, 2}, {65535, no, 2}, {65534, 2, 65536}, {65536, no, 65536}}},
		{api.Limits{Min: 65536}, [][3]uint32{{1, no, 65536}, {0, 65536, 65536}}},
		// Sums that are small again modulo 2^32.
		{api.Limits{Min: 5, Max: 9, Capped: true}, [][3]uint32{{no, no, 5}, {no - 3, no, 5}, {no - 4, no, 5}, {1 << 31, no, 5}, {4, 5, 9}}},
		{api.Limits{Min: 5}, [][3]uint32{{no, no, 5}, {no - 3, no, 5}, {no - 4, no, 5}, {1 << 31, no, 5}, {1 << 16, no, 5}, {1, 5, 6}}},
	} {
		m := must(t, c.l)
		for _, s := range c.steps {
			grows(t, m, s[0], s[1], s[2])
		}
	}
}

// P12.1: what is added is 0, and what was there stays; when no page is added nothing changes.
func TestGrowBytes(t *testing.T) {
	m, r := filled(t, api.Limits{Min: 2, Max: 6, Capped: true})
	for _, n := range []uint32{0, 1, 5, math.MaxUint32, 2, 0, 2, 1, 1} {
		want := r.grow(n)
		if got, e := m.Grow(n); got != want || e != api.OK {
			t.Errorf("Grow(%d) = %d, %v; want %d", n, got, e, want)
		}
		sameAs(t, "grown", m, r)
	}
	if r.pages() != 6 {
		t.Errorf("%d pages", r.pages())
	}
}

// What was out of bounds ahead of a Grow, and so was not written, is 0 behind it.
func TestGrowRefusedBytes(t *testing.T) {
	m := must(t, api.Limits{Min: 1})
	storesAs(t, m, api.OpStore, 65534, 0, math.MaxUint32, api.ErrBounds)
	storesAs(t, m, api.OpStore8, 65536, 0, math.MaxUint32, api.ErrBounds)
	if e := m.Write(65535, []byte{1, 2}); e != api.ErrBounds {
		t.Errorf("Write = %v", e)
	}
	grows(t, m, 1, 1, 2)
	sameAs(t, "grown", m, newRow(api.Limits{Min: 2}))
}

// A page is there when something is written to it, and not before: 65,536 of them can be read.
func TestPagesUnwritten(t *testing.T) {
	m := must(t, api.Limits{Min: 1})
	grows(t, m, 65535, 1, 65536)
	for n := range uint32(65536) {
		loadsAs(t, m, api.OpLoad, n*pageBytes, 8, 0, api.OK)
		reads(t, "never written", m, n*pageBytes+65535, 0)
		if e := m.Write(n*pageBytes, nil); e != api.OK {
			t.Errorf("Write of nothing: %v", e)
		}
	}
	for n := range uint32(65535) {
		loadsAs(t, m, api.OpLoad, n*pageBytes, 65534, 0, api.OK)
	}
	if len(m.pages) != 0 {
		t.Errorf("%d pages take room", len(m.pages))
	}
	storesAs(t, m, api.OpStore8, 65535*pageBytes, 0, 7, api.OK)
	storesAs(t, m, api.OpStore, 3*pageBytes-2, 0, 7, api.OK)
	if len(m.pages) != 3 {
		t.Errorf("%d pages take room", len(m.pages))
	}
}
