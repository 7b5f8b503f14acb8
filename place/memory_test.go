package place

import (
	"bytes"
	"math"
	"slices"
	"testing"

	"gimlet/api"
)

const pageBytes = 65536

// P13.1: data of each length, ending ahead of, at, and behind the end of each page, and far beyond: those too whose sum is small modulo 2^32.
func TestDataEdges(t *testing.T) {
	for pages := range uint32(4) {
		end := int64(pages) * pageBytes
		for _, n := range []int64{0, 1, 2, 3, 65535, 65536, 65537, 131072, 200000} {
			for _, at := range []int64{0, 1, 65534, 65535, 65536, 65537, 131071, end - n - 1, end - n, end - n + 1, end - 1, end, end + 1, end + 2, 1 << 31, 1<<32 - n, 1<<32 - n + 1, math.MaxUint32 - 1, math.MaxUint32} {
				if at < 0 || at > math.MaxUint32 {
					continue
				}
				m := paged(pages, data(uint32(at), bytes.Repeat([]byte{9, 8, 7}, int(n+2)/3)[:n]...))
				if at+n > end {
					newAs(t, "data beyond the memory", m, api.ErrBounds)
					continue
				}
				want := make([]byte, end)
				copy(want[at:], m.Datas[0].Bytes)
				if p := must(t, m); p.Memory().Pages() != pages {
					t.Errorf("%d pages; want %d", p.Memory().Pages(), pages)
				} else {
					readsAs(t, p, 0, want...)
				}
			}
		}
	}
}

// P13.1: the same at the end of the greatest memory: no offset is above its bytes.
func TestDataFull(t *testing.T) {
	const last = math.MaxUint32
	for _, c := range []struct {
		at uint32
		b  []byte
		e  api.Errno
	}{
		{last, nil, api.OK}, {last, []byte{1}, api.OK}, {last, []byte{1, 2}, api.ErrBounds},
		{last - 1, []byte{1, 2}, api.OK}, {last - 1, []byte{1, 2, 3}, api.ErrBounds},
		{last - 99, make([]byte, 100), api.OK}, {last - 99, make([]byte, 101), api.ErrBounds},
		{last - 99, make([]byte, 1<<20-1), api.ErrBounds}, {last - 1<<20 + 2, make([]byte, 1<<20-1), api.OK}, {last - 1<<20 + 3, make([]byte, 1<<20-1), api.ErrBounds},
	} {
		m := paged(65536, data(0, 5), data(c.at, c.b...))
		newAs(t, "the last bytes", m, c.e)
		if c.e == api.OK {
			p := must(t, m)
			readsAs(t, p, c.at, c.b...)
			readsAs(t, p, 0, 5, 0)
		}
	}
}

// P13.1: data that do not fit, wherever they stand among others.
func TestOneDataBeyond(t *testing.T) {
	for _, bad := range []api.Data{data(65536, 1), data(65537), data(65535, 1, 2), data(0, make([]byte, 65537)...), data(math.MaxUint32, 1), data(math.MaxUint32)} {
		for at := range 4 {
			datas := []api.Data{data(0, 1, 2), data(65536), data(65535, 3)}
			newAs(t, "all of them", paged(1, datas...), api.OK)
			newAs(t, "one beyond", paged(1, slices.Insert(datas, at, bad)...), api.ErrBounds)
		}
	}
}

// P13.1: data are put into the memory in order, one over the other.
func TestDataOrder(t *testing.T) {
	p := must(t, paged(2, data(2, 1, 2, 3, 4), data(4, 5), data(0, 6, 7, 8), data(65535, 9, 9, 9), data(65536, 1), data(6)))
	readsAs(t, p, 0, 6, 7, 8, 2, 5, 4, 0, 0)
	readsAs(t, p, 65534, 0, 9, 1, 9, 0)
	p = must(t, paged(1, data(0, 1, 2), data(0, 0, 3), data(1)))
	readsAs(t, p, 0, 0, 3, 0)
	// One list of bytes twice, which the data share.
	shared := []byte{4, 5}
	p = must(t, paged(1, data(0, shared...), data(3, shared...)))
	readsAs(t, p, 0, 4, 5, 0, 4, 5, 0)
}

// P13.1: as many data, and bytes of them, as there may be.
func TestManyData(t *testing.T) {
	whole := make([]byte, 1<<20)
	for k := range whole {
		whole[k] = byte(k%251 + 1)
	}
	p := must(t, paged(17, data(65536, whole...)))
	readsAs(t, p, 65536, whole...)
	readsAs(t, p, 65534, 0, 0, 1)
	newAs(t, "one further on", paged(17, data(65537, whole...)), api.ErrBounds)

	datas := make([]api.Data, api.MaxItems)
	for k := range datas {
		datas[k] = data(uint32(k/2), byte(k), byte(k+1))
	}
	p = must(t, paged(1, datas...))
	want := make([]byte, api.MaxItems/2+1)
	for k := range want {
		want[k] = byte(2*k + 1)
	}
	want[api.MaxItems/2] = 0 // the last one's second byte: MaxItems
	readsAs(t, p, 0, want...)
	datas[api.MaxItems-1] = data(65536, 1)
	newAs(t, "the last one beyond", paged(1, datas...), api.ErrBounds)
}

// P13.2: the memory has the module's limits: its Min of pages, and may have as many as its Max.
func TestLimits(t *testing.T) {
	for _, l := range []api.Limits{{}, {Min: 1}, {Capped: true}, {Max: 2, Capped: true}, {Min: 2, Max: 2, Capped: true}, {Min: 2, Max: 3, Capped: true}, {Min: 5, Max: 65536, Capped: true}, {Min: 65535}, {Min: 65536}, {Min: 65536, Max: 65536, Capped: true}} {
		most := uint32(65536)
		if l.Capped {
			most = l.Max
		}
		p := must(t, api.Module{Memories: []api.Limits{l}})
		mem := p.Memory()
		if mem == nil || mem.Pages() != l.Min {
			t.Fatalf("%+v: %d pages", l, mem.Pages())
		}
		if n, e := mem.Grow(most - l.Min + 1); n != math.MaxUint32 || e != api.OK {
			t.Errorf("%+v: Grow beyond the Max = %d, %v", l, n, e)
		}
		if n, e := mem.Grow(most - l.Min); n != l.Min || e != api.OK || mem.Pages() != most {
			t.Errorf("%+v: Grow = %d, %v; %d pages", l, n, e, mem.Pages())
		}
	}
	// What it may have beside is not there for data.
	grown := api.Module{Memories: []api.Limits{{Min: 1, Max: 9, Capped: true}}, Datas: []api.Data{data(65536, 1)}}
	newAs(t, "data on a page that may be", grown, api.ErrBounds)
}

// P13.2: Memory is the place's memory itself, each time; there is none of a module without.
func TestMemoryItself(t *testing.T) {
	p := must(t, paged(1, data(4, 7)))
	if p.Memory() != p.Memory() {
		t.Error("two memories")
	}
	if e := p.Memory().Store(api.OpStore, 4, 0, 0x04030201); e != api.OK {
		t.Error(e)
	}
	p.Memory().Grow(1)
	readsAs(t, p, 3, 0, 1, 2, 3, 4, 0)
	if p.Memory().Pages() != 2 {
		t.Errorf("%d pages", p.Memory().Pages())
	}
	for _, m := range []api.Module{{}, tabled(3, elem(0, 1)), {Globals: []api.Global{{Init: number(1)}}}} {
		if mem := must(t, m).Memory(); mem != nil {
			t.Error("a memory of a module without")
		}
	}
}
