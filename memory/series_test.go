package memory

import (
	"bytes"
	"math"
	"testing"

	"gimlet/api"
)

// series is calls of a memory, one after the other, each held against the same call of a row.
type series struct {
	*dice
	t *testing.T
	m *Memory
	r *row
}

// address is one at an edge of a page, near the end, or anywhere; or one beyond.
func (s series) address() int64 {
	end := int64(len(s.r.b))
	switch s.below(8) {
	case 0:
		return max(end-int64(s.below(9)), 0)
	case 1:
		return end + int64(s.below(9))
	case 2:
		return int64(s.below(math.MaxUint32 + 1))
	case 3:
		return whole - int64(s.below(9)) - 1
	case 4, 5:
		return max(int64(s.below(s.r.pages()+1))*pageBytes+int64(s.below(17))-8, 0)
	}
	return int64(s.below(int(end) + 1))
}

// parts are an address and an offset whose sum is a start, or that plus 2^32.
func (s series) parts(start int64) (uint32, uint32) {
	if s.below(12) == 0 {
		start = min(start+whole, 2*math.MaxUint32)
	}
	low := max(start-math.MaxUint32, 0)
	high := min(start, math.MaxUint32)
	at := low + int64(s.below(int(high-low)+1))
	switch s.below(4) {
	case 0:
		at = low
	case 1:
		at = high
	}
	return uint32(at), uint32(start - at)
}

// word is a word with many bits, with few, or with all of them.
func (s series) word() uint32 {
	v := uint32(s.below(1<<31))*2 + uint32(s.below(2))
	switch s.below(6) {
	case 0:
		return v >> (s.below(4) * 8)
	case 1:
		return math.MaxUint32 << s.below(32)
	}
	return v
}

func (s series) load() {
	o := loads()[s.below(5)]
	at, offset := s.parts(s.address())
	want, e := s.r.load(o, at, offset)
	loadsAs(s.t, s.m, o.op, at, offset, want, e)
}

func (s series) store() {
	o := stores()[s.below(3)]
	start := s.address()
	at, offset := s.parts(start)
	v := s.word()
	storesAs(s.t, s.m, o.op, at, offset, v, s.r.store(o, at, offset, v))
	window(s.t, s.m, s.r, start)
}

// misused calls with operations of the other kind, or with numbers that are none.
func (s series) misused() {
	none := strangers()
	op := none[s.below(len(none))]
	at, offset := s.parts(s.address())
	loadsAs(s.t, s.m, op, at, offset, 0, api.ErrArg)
	storesAs(s.t, s.m, op, at, offset, s.word(), api.ErrArg)
	loadsAs(s.t, s.m, stores()[s.below(3)].op, at, offset, 0, api.ErrArg)
	storesAs(s.t, s.m, loads()[s.below(5)].op, at, offset, s.word(), api.ErrArg)
}

func (s series) many() int {
	switch s.below(20) {
	case 0:
		return s.below(3 * pageBytes)
	case 1, 2:
		return 0
	}
	return s.below(30)
}

func (s series) read() {
	at, n := uint32(s.address()), uint32(s.many())
	if s.below(12) == 0 {
		n = s.word()
	}
	want, fault := s.r.read(at, n)
	if b, e := s.m.Read(at, n); e != fault || !bytes.Equal(b, want) {
		s.t.Errorf("Read(%d, %d) = %d bytes, %v; want %d, %v", at, n, len(b), e, len(want), fault)
	}
}

func (s series) write() {
	at, b := uint32(s.address()), s.bytes(s.many())
	want := s.r.write(at, b)
	if e := s.m.Write(at, b); e != want {
		s.t.Errorf("Write(%d, %d bytes) = %v; want %v", at, len(b), e, want)
	}
	window(s.t, s.m, s.r, int64(at))
	window(s.t, s.m, s.r, int64(at)+int64(len(b)))
}

// grow asks for few pages, and only as long as a row of them is short, or for far too many.
func (s series) grow() {
	n := uint32(s.below(3))
	if s.r.pages()+int(n) > min(s.r.most+1, 14) {
		n = 0
	}
	if s.below(4) == 0 && s.r.pages() > 0 {
		n = []uint32{65536, 65537, 1 << 31, math.MaxUint32, math.MaxUint32 - uint32(s.r.pages()) + 1}[s.below(5)]
	}
	want := s.r.grow(n)
	if got, e := s.m.Grow(n); got != want || e != api.OK {
		s.t.Errorf("Grow(%d) = %d, %v; want %d", n, got, e, want)
	}
	if s.m.Pages() != uint32(s.r.pages()) {
		s.t.Errorf("%d pages; want %d", s.m.Pages(), s.r.pages())
	}
}

// P12.1 to P12.4: long series of calls of all functions, on memories of several limits.
func TestSeries(t *testing.T) {
	for k, l := range []api.Limits{
		{},
		{Capped: true},
		{Max: 2, Capped: true},
		{Min: 1},
		{Min: 1, Max: 1, Capped: true},
		{Min: 1, Max: 2, Capped: true},
		{Min: 2, Max: 5, Capped: true},
		{Min: 3},
		{Min: 4, Max: 65536, Capped: true},
	} {
		d := dice(100 + k)
		s := series{&d, t, must(t, l), newRow(l)}
		for n := range 12000 {
			switch p := d.below(100); {
			case p < 35:
				s.store()
			case p < 70:
				s.load()
			case p < 80:
				s.write()
			case p < 92:
				s.read()
			case p < 94:
				s.misused()
			case p < 95 && d.below(3) == 0:
				s.grow()
			}
			if n%100 == 99 {
				sameAs(t, "a series", s.m, s.r)
			}
			if t.Failed() {
				t.Fatalf("limits %+v, call %d", l, n)
			}
		}
		if l.Max > 0 && l.Max < 6 && s.r.pages() != int(l.Max) || !l.Capped && s.r.pages() < 5 {
			t.Errorf("limits %+v: the series ended with %d pages", l, s.r.pages())
		}
	}
}

// P12.4: what is stored is loaded, as far as its bits were kept, whatever is stored after it elsewhere.
func TestStoredIsLoaded(t *testing.T) {
	d := dice(7)
	s := series{&d, t, must(t, api.Limits{Min: 3}), newRow(api.Limits{Min: 3})}
	for range 20000 {
		start := uint32(8 + d.below(3*pageBytes-24))
		if d.below(2) == 0 {
			start = uint32(d.below(2)+1)*pageBytes - uint32(d.below(8))
		}
		v := s.word()
		for _, c := range []struct {
			op     int
			size   uint32
			loaded map[int]uint32
		}{
			{api.OpStore, 4, map[int]uint32{api.OpLoad: v}},
			{api.OpStore16, 2, map[int]uint32{api.OpLoad16U: v & 0xffff, api.OpLoad16S: uint32(int32(v) << 16 >> 16)}},
			{api.OpStore8, 1, map[int]uint32{api.OpLoad8U: v & 0xff, api.OpLoad8S: uint32(int32(v) << 24 >> 24)}},
		} {
			ahead, _ := s.m.Read(start-8, 8)
			behind, _ := s.m.Read(start+c.size, 8)
			storesAs(t, s.m, c.op, start, 0, v, api.OK)
			// Both neighbours are written anew, as they were: that doesn't reach what was stored.
			s.m.Write(start-8, ahead)
			s.m.Write(start+c.size, behind)
			for op, want := range c.loaded {
				loadsAs(t, s.m, op, start, 0, want, api.OK)
			}
			reads(t, "ahead of what is stored", s.m, start-8, ahead...)
			reads(t, "behind what is stored", s.m, start+c.size, behind...)
		}
	}
}

// P12.4: what is out of bounds changes nothing, of whatever size; existing bytes stay when the memory grows.
func TestRefusedChangesNothing(t *testing.T) {
	for pages := range uint32(4) {
		limits := api.Limits{Min: pages, Max: pages + 1, Capped: true}
		m, r := filled(t, limits)
		end := pages * pageBytes
		for size, op := range map[uint32]int{4: api.OpStore, 2: api.OpStore16, 1: api.OpStore8} {
			for d := range size {
				if at := end - d; at <= end {
					storesAs(t, m, op, at, 0, 0xabababab, api.ErrBounds)
					storesAs(t, m, op, 0, at, 0xabababab, api.ErrBounds)
				}
			}
		}
		for _, n := range []uint32{1, 2, 65536, 65537, 200000} {
			for _, d := range []uint32{0, 1, n / 2, n - 1} {
				at := end - d
				if at > end || d == n {
					continue
				}
				if e := m.Write(at, bytes.Repeat([]byte{0xab}, int(n))); e != api.ErrBounds {
					t.Errorf("%d pages: Write(%d, %d bytes) = %v", pages, at, n, e)
				}
			}
		}
		sameAs(t, "refused", m, r)
		grows(t, m, 2, math.MaxUint32, pages)
		sameAs(t, "refused", m, r)
		grows(t, m, 1, pages, pages+1)
		r.grow(1)
		sameAs(t, "grown", m, r)
	}
}
