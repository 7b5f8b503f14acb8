package place

import (
	"math"
	"slices"
	"testing"

	"gimlet/api"
)

// P13.1: each length of an element at each offset, at the table's end, and far beyond: those too whose sum is small modulo 2^32.
func TestElemEdges(t *testing.T) {
	for size := range uint32(6) {
		for n := range uint32(8) {
			for _, at := range []uint32{0, 1, 2, 3, 4, 5, 6, 7, 1 << 8, 1 << 16, 1 << 20, 1<<31 - 1, 1 << 31, 1<<31 + 1, math.MaxUint32 - 7, math.MaxUint32 - 6, math.MaxUint32 - 1, math.MaxUint32} {
				funcs := []uint32{8, 7, 6, 5, 4, 3, 2}[:n]
				m := tabled(size, elem(at, funcs...))
				if int64(at)+int64(n) > int64(size) {
					newAs(t, "an element beyond the table", m, api.ErrBounds)
					continue
				}
				p := must(t, m)
				for k := range size {
					if k >= at && k < at+n {
						entryAs(t, p, k, funcs[k-at])
					} else {
						noEntry(t, p, k, api.OK)
					}
				}
				noEntry(t, p, size, api.ErrBounds)
			}
		}
	}
}

// P13.1: an element that does not fit, wherever it stands among others.
func TestOneElemBeyond(t *testing.T) {
	for _, bad := range []api.Elem{elem(4, 1), elem(5), elem(3, 1, 2), elem(0, 1, 2, 3, 4, 5), elem(math.MaxUint32, 1), elem(math.MaxUint32)} {
		for at := range 4 {
			elems := []api.Elem{elem(0, 1, 2), elem(4), elem(3, 0)}
			newAs(t, "all of them", tabled(4, elems...), api.OK)
			newAs(t, "one beyond", tabled(4, slices.Insert(elems, at, bad)...), api.ErrBounds)
		}
	}
}

// P13.1: elements are put into the table in order, one over the other.
func TestElemOrder(t *testing.T) {
	p := must(t, tabled(8, elem(1, 1, 2, 3, 4), elem(3, 5), elem(0, 6, 7), elem(4, 8, 0)))
	for n, want := range []uint32{6, 7, 2, 5, 8, 0} {
		entryAs(t, p, uint32(n), want)
	}
	noEntry(t, p, 6, api.OK)
	noEntry(t, p, 7, api.OK)
	noEntry(t, p, 8, api.ErrBounds)
	p = must(t, tabled(2, elem(0, 1, 2), elem(0, 3, 4), elem(0), elem(1, 5), elem(2)))
	entryAs(t, p, 0, 3)
	entryAs(t, p, 1, 5)
	// One list of functions twice, which the elements share.
	shared := []uint32{4, 5}
	p = must(t, tabled(4, elem(0, shared...), elem(2, shared...)))
	for n, want := range []uint32{4, 5, 4, 5} {
		entryAs(t, p, uint32(n), want)
	}
}

// P13.2: the functions' numbers are those among all functions, the imported ones first.
func TestElemImports(t *testing.T) {
	m := tabled(5, elem(0, 4, 3, 2, 1, 0))
	m.Funcs = m.Funcs[:2]
	m.Imports = []api.Import{getc(), putc(), getc()}
	p := must(t, m)
	for n, want := range []uint32{4, 3, 2, 1, 0} {
		entryAs(t, p, uint32(n), want)
	}
	m.Elems[0].Funcs[0] = 5
	newAs(t, "no such function", m, api.ErrArg)
}

// P13.2: the table has as many entries as its Min, however many it may have.
func TestSize(t *testing.T) {
	for _, l := range []api.Limits{{}, {Min: 1}, {Min: 3}, {Capped: true}, {Max: 5, Capped: true}, {Min: 2, Max: 2, Capped: true}, {Min: 2, Max: 1 << 20, Capped: true}, {Min: 1000}, {Min: 1 << 20}, {Min: 1 << 20, Max: 1 << 20, Capped: true}} {
		m := functions(1)
		m.Tables = []api.Limits{l}
		p := must(t, m)
		if p.Size() != l.Min {
			t.Errorf("%+v: Size() = %d", l, p.Size())
		}
		for _, n := range []uint32{0, 1, 2, 3, 4, 5, 999, 1000, 1<<20 - 1, 1 << 20, 1<<20 + 1, 1 << 31, math.MaxUint32} {
			want := api.OK
			if n >= l.Min {
				want = api.ErrBounds
			}
			noEntry(t, p, n, want)
		}
		// What it may have beside is not there for elements either.
		m.Elems = []api.Elem{elem(l.Min)}
		newAs(t, "nothing at the end", m, api.OK)
		m.Elems = []api.Elem{elem(l.Min, 0)}
		newAs(t, "one at the end", m, api.ErrBounds)
		m.Elems = []api.Elem{elem(l.Min + 1)}
		newAs(t, "nothing beyond the end", m, api.ErrBounds)
	}
}

// P13.2: a module without a table.
func TestNoTable(t *testing.T) {
	for _, m := range []api.Module{{}, functions(2), paged(1, data(0, 1))} {
		p := must(t, m)
		if p.Size() != 0 {
			t.Errorf("Size() = %d", p.Size())
		}
		for _, n := range []uint32{0, 1, 2, 1 << 31, math.MaxUint32} {
			noEntry(t, p, n, api.ErrBounds)
		}
	}
}

// P13.1, P13.2: as many entries, elements, and functions of one, as there may be.
func TestManyEntries(t *testing.T) {
	many := make([]uint32, api.MaxItems)
	for k := range many {
		many[k] = uint32(k % 9)
	}
	p := must(t, tabled(1<<20, elem(1<<20-api.MaxItems, many...), elem(0, many[1:3]...)))
	entryAs(t, p, 0, 1)
	entryAs(t, p, 1, 2)
	noEntry(t, p, 2, api.OK)
	noEntry(t, p, 1<<20-api.MaxItems-1, api.OK)
	for k, want := range many {
		entryAs(t, p, uint32(1<<20-api.MaxItems+k), want)
	}
	noEntry(t, p, 1<<20, api.ErrBounds)
	newAs(t, "one further on", tabled(1<<20, elem(1<<20-api.MaxItems+1, many...)), api.ErrBounds)

	elems := make([]api.Elem, api.MaxItems)
	for k := range elems {
		elems[k] = elem(uint32(k/2), uint32(k%8), uint32(k%7))
	}
	p = must(t, tabled(api.MaxItems/2+1, elems...))
	for k := range uint32(api.MaxItems / 2) {
		entryAs(t, p, k, (2*k+1)%8)
	}
	entryAs(t, p, api.MaxItems/2, (api.MaxItems-1)%7)
	newAs(t, "the last one beyond", tabled(api.MaxItems/2, elems...), api.ErrBounds)
}
