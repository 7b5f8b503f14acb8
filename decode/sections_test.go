package decode

import (
	"bytes"
	"slices"
	"strings"
	"testing"

	"gimlet/api"
	"gimlet/leb"
	"gimlet/module"
)

// The chapter's examples.
func TestExamples(t *testing.T) {
	checkIs(t, "none", headed(), api.Module{})
	checkIs(t, "a section 0", headed([]byte{0, 2, 1, 97}), api.Module{})
	checkIs(t, "a memory of 1 to 2", headed([]byte{5, 4, 1, 1, 1, 2}), api.Module{Memories: []api.Limits{{Min: 1, Max: 2, Capped: true}}})
	checkFault(t, "a byte left", headed([]byte{5, 5, 1, 1, 1, 2, 9}), faultAt(api.ErrSize, 14))
	checkFault(t, "1 behind 5", headed([]byte{5, 4, 1, 1, 1, 2, 1, 1, 0}), faultAt(api.ErrOrder, 14))
	checkFault(t, "a section 12", headed([]byte{12, 0}), faultAt(api.ErrSection, 8))
	checkFault(t, "8 bytes too few", headed([]byte{5, 9, 1}), faultAt(api.ErrBytes, 11))
	checkFault(t, "a byte left behind types", headed([]byte{1, 5, 1, 96, 0, 0, 0}), faultAt(api.ErrSize, 14))
	checkFault(t, "a function without code", headed([]byte{1, 4, 1, 96, 0, 0, 3, 2, 1, 0}), faultAt(api.ErrCount, 18))
	checkNoSections(t, "another fourth byte", []byte{0, 97, 115, 110}, faultAt(api.ErrMagic, 3))
	checkNoSections(t, "two bytes", []byte{0, 97}, faultAt(api.ErrBytes, 2))
	// And the seventh of the document's examples of the whole.
	checkIs(t, "an empty module", []byte{0, 97, 115, 109, 1, 0, 0, 0}, api.Module{})
}

// P9.1: the first eight bytes: each of them wrong, each of them the last one; what is wrong comes ahead of what is missing.
func TestHead(t *testing.T) {
	whole := headed([]byte{5, 4, 1, 1, 1, 2})
	for k := range 8 {
		checkNoSections(t, "too short", whole[:k], faultAt(api.ErrBytes, k))
		for c := range 256 {
			b := slices.Clone(whole)
			b[k] = byte(c)
			if b[k] == whole[k] {
				continue
			}
			for end := k + 1; end <= len(b); end++ {
				checkNoSections(t, "a wrong byte", b[:end], faultAt(api.ErrMagic, k))
			}
		}
	}
	checkNoSections(t, "nil", nil, faultAt(api.ErrBytes, 0))
	checkNoSections(t, "all wrong", bytes.Repeat([]byte{255}, 8), faultAt(api.ErrMagic, 0))
	checkNoSections(t, "the last two wrong", []byte{0, 97, 115, 109, 1, 0, 1, 1, 12}, faultAt(api.ErrMagic, 6))
}

// padded is some bytes of a module, and a section 0 that makes them so many.
func padded(b []byte, size int) []byte {
	own := size - len(b) - 4 // its number, and a size of three bytes
	return slices.Concat(b, []byte{0}, longer(uint32(own))[3-len(leb.PutU(uint32(own)))], make([]byte, own))
}

// P9.1, P9.2: just 2^20 bytes, and one more.
func TestLong(t *testing.T) {
	t.Parallel()
	all := encoded(sample())
	for _, b := range [][]byte{headed(), all, headed([]byte{5, 4, 1, 1, 1, 2})} {
		m, _ := Module(b)
		fits := padded(b, 1<<20)
		if len(fits) != 1<<20 {
			t.Fatal(len(fits))
		}
		checkIs(t, "2^20 bytes", fits, m)
		for more := 1; more < 4; more++ {
			checkNoSections(t, "more than 2^20 bytes", padded(b, 1<<20+more), faultAt(api.ErrLong, 0))
			checkNoSections(t, "2^20 bytes, and others", append(slices.Clone(fits), all[:more]...), faultAt(api.ErrLong, 0))
		}
	}
	want := api.Module{Datas: []api.Data{{Bytes: bytes.Repeat([]byte{7}, 1<<20-18)}}}
	b := encoded(want)
	if len(b) != 1<<20 {
		t.Fatal(len(b))
	}
	checkIs(t, "2^20 bytes, most of them data", b, want)
	checkNoSections(t, "one more", append(b, 0), faultAt(api.ErrLong, 0))
	// It comes first, whatever there is.
	for _, first := range []byte{0, 1, 255} {
		checkNoSections(t, "nothing but one byte", bytes.Repeat([]byte{first}, 1<<20+1), faultAt(api.ErrLong, 0))
	}
	checkNoSections(t, "2^20 of nothing but 1", bytes.Repeat([]byte{1}, 1<<20), faultAt(api.ErrMagic, 0))
	checkNoSections(t, "2^20 of nothing but 0", make([]byte, 1<<20), faultAt(api.ErrMagic, 1))
	checkNoSections(t, "far more", make([]byte, 1<<22), faultAt(api.ErrLong, 0))
	many := headed(bytes.Repeat([]byte{0, 1, 0}, (1<<20-8)/3))
	checkIs(t, "as many sections 0 as there can be", many, api.Module{})
}

// empty is a section with a byte 0: an empty list, an empty name, or a Start of 0.
func empty(id byte) []byte { return section(id, 0) }

// between puts sections 0 ahead of each section, and behind the last one.
func between(sections ...[]byte) []byte {
	var out []byte
	for k, s := range append(sections, nil) {
		for range k % 3 {
			out = append(out, section(0, append(named(strings.Repeat("n", k)), s...)...)...)
		}
		out = append(out, s...)
	}
	return out
}

// P9.1: numbers above 11, wherever they stand.
func TestNoSuchSection(t *testing.T) {
	for id := 12; id < 256; id++ {
		for _, behind := range [][]byte{nil, {0}, {1, 0}, {128}, {255, 255, 255, 255, 255}} {
			tail := append([]byte{byte(id)}, behind...)
			checkNoSections(t, "alone", headed(tail), faultAt(api.ErrSection, 8))
			checkNoSections(t, "behind 0", headed(empty(0), tail), faultAt(api.ErrSection, 11))
			checkNoSections(t, "behind 11", headed(empty(11), tail), faultAt(api.ErrSection, 11))
			checkNoSections(t, "behind 1", headed(empty(1), empty(0), tail), faultAt(api.ErrSection, 14))
		}
	}
}

// P9.1: all pairs and triples of sections, with and without sections 0 among them: a number must be above the last one that was not 0.
func TestOrder(t *testing.T) {
	for a := byte(0); a <= 11; a++ {
		for b := byte(0); b <= 11; b++ {
			checkOrder(t, a, b)
			for c := byte(0); c <= 11; c++ {
				checkOrder(t, a, b, c)
				checkOrder(t, a, 0, b, 0, 0, c)
			}
		}
	}
	all := []byte{1, 2, 3, 4, 5, 6, 7, 8, 9, 10, 11}
	checkOrder(t, all...)
	for k := range all {
		checkOrder(t, slices.Concat(all[:k+1], all[k:])...)         // one twice
		checkOrder(t, slices.Concat(all[:k], all[k+1:])...)         // one left out
		checkOrder(t, slices.Concat(all, []byte{0, 0}, all[k:])...) // one again at the end
	}
	slices.Reverse(all)
	checkOrder(t, all...)
}

// checkOrder holds what is said of sections that have nothing in them.
func checkOrder(t *testing.T, ids ...byte) {
	t.Helper()
	b, last := headed(), byte(0)
	var want []api.Chunk
	for _, id := range ids {
		if id > 0 && id <= last {
			for _, tail := range [][]byte{{id}, empty(id), {id, 128}, {id, 200, 1}, {id, 255, 255, 255, 255, 16}} {
				checkNoSections(t, "another order", slices.Concat(b, tail), faultAt(api.ErrOrder, len(b)))
			}
			return
		}
		last = max(last, id)
		b = append(b, empty(id)...)
		want = append(want, api.Chunk{ID: int(id), At: len(b) - 1, End: len(b)})
	}
	if l, f := Sections(b); f != (api.Fault{}) || !slices.Equal(l, want) {
		t.Fatalf("Sections(%v) = %v, %v; want %v", b, l, f, want)
	}
	checkIs(t, "in order", b, api.Module{Started: slices.Contains(ids, 8)})
}

// P9.1: sizes: with more bytes than they need, which are no number, and beyond what follows.
func TestSizes(t *testing.T) {
	fronts := [][]byte{{}, empty(0), section(1, 1, 96, 0, 0), between(empty(1), empty(2))}
	for _, front := range fronts {
		at := 8 + len(front) + 1
		for _, size := range longer(4) {
			b := headed(front, []byte{5}, size, []byte{1, 1, 1, 2})
			m, f := Module(b)
			if f.Err != api.OK || !slices.Equal(m.Memories, []api.Limits{{Min: 1, Max: 2, Capped: true}}) {
				t.Errorf("%v: %v, %v", b, m, f)
			}
			check(t, b)
			for end := 8 + len(front) + 1; end < len(b); end++ {
				checkNoSections(t, "too short", b[:end], faultAt(api.ErrBytes, end))
			}
		}
		for _, size := range tooLong() {
			for _, id := range []byte{0, 5, 11} {
				checkNoSections(t, "no number", headed(front, []byte{id}, size)[:at+5], faultAt(api.ErrBytes, at+4))
				checkNoSections(t, "no number, and others", headed(front, []byte{id}, size, make([]byte, 20)), faultAt(api.ErrBytes, at+4))
			}
		}
		for _, size := range unended() {
			checkNoSections(t, "a number's beginning", headed(front, []byte{11}, size), faultAt(api.ErrBytes, at+len(size)))
		}
		for _, size := range []uint32{1, 2, 127, 128, 16384, 1<<20 - 1, 1 << 20, 1<<20 + 1, 1<<31 - 1, 1 << 31, 1<<32 - 2, 1<<32 - 1} {
			for _, text := range longer(size) {
				for _, behind := range []int{0, 1, 5, 126, 127} {
					if uint32(behind) < size {
						b := headed(front, []byte{11}, text, make([]byte, behind))
						checkNoSections(t, "beyond the end", b, faultAt(api.ErrBytes, len(b)))
					}
				}
			}
		}
	}
}

// P9.1: the chunks are the sections, in order, whatever is in them.
func TestChunks(t *testing.T) {
	var b []byte
	var want []api.Chunk
	add := func(id byte, size []byte, own int) {
		b = slices.Concat(b, []byte{id}, size)
		want = append(want, api.Chunk{ID: int(id), At: len(b), End: len(b) + own})
		b = append(b, bytes.Repeat([]byte{255}, own)...)
	}
	b = headed()
	add(0, []byte{0}, 0)
	add(1, []byte{3}, 3)
	add(0, []byte{128, 0}, 0)
	add(0, []byte{130, 128, 0}, 2)
	add(4, []byte{128, 128, 128, 128, 0}, 0)
	add(7, []byte{255, 1}, 255)
	add(10, []byte{128, 128, 1}, 16384)
	add(11, []byte{1}, 1)
	add(0, []byte{127}, 127)
	for k := range want {
		l, f := Sections(b[:want[k].End])
		if f != (api.Fault{}) || !slices.Equal(l, want[:k+1]) {
			t.Errorf("%d sections: %v, %v; want %v", k+1, l, f, want[:k+1])
		}
	}
	if l, f := Sections(headed()); len(l) > 0 || f != (api.Fault{}) {
		t.Errorf("none: %v, %v", l, f)
	}
	l, _ := Sections(encoded(sample()))
	for k, c := range l {
		if c.ID != k+1 {
			t.Errorf("%v", l)
		}
	}
	if len(l) != 11 {
		t.Errorf("%d sections", len(l))
	}
}

// Sections 0 have a name, of any length, and any bytes behind it; nothing of them is kept.
func TestSectionsOfOthers(t *testing.T) {
	var sections [][]byte
	l, _ := Sections(encoded(sample()))
	for _, c := range l {
		sections = append(sections, section(byte(c.ID), encoded(sample())[c.At:c.End]...))
	}
	checkIs(t, "among all others", headed(between(sections...)), sample())
	for _, s := range []string{"", "a", "name", "\u20ac", strings.Repeat("n", 999), strings.Repeat("n", 1000), strings.Repeat("n", 1001), strings.Repeat("\u00e9", 16385), strings.Repeat("x", 1000000)} {
		for _, behind := range [][]byte{{}, {0}, {255, 255, 255, 255, 255, 255}, {0, 97, 115, 109}, {12, 0}, bytes.Repeat([]byte{200}, 1000)} {
			own := append(named(s), behind...)
			checkIs(t, "alone", headed(section(0, own...)), api.Module{})
			m, f := Module(headed(section(0, own...), section(5, 1, 0, 3)))
			if f.Err != api.OK || !module.Same(m, api.Module{Memories: []api.Limits{{Min: 3}}}) {
				t.Errorf("%v, %v", m, f)
			}
		}
	}
	for _, size := range longer(2) {
		checkIs(t, "a longer number", headed(section(0, append(size, 97, 98, 255)...)), api.Module{})
	}
	for _, front := range [][]byte{{}, section(0, 0), section(4, 1, 112, 0, 3), section(11, 0)} {
		checkInside(t, "nothing", front, 0, nil, api.ErrBytes, 0)
		for _, size := range unended() {
			checkInside(t, "a number's beginning", front, 0, size, api.ErrBytes, len(size))
		}
		for _, size := range tooLong() {
			checkInside(t, "no number", front, 0, size, api.ErrBytes, 4)
		}
		checkInside(t, "too few bytes", front, 0, []byte{3, 97, 98}, api.ErrBytes, 3)
		checkInside(t, "too few bytes of a wrong name", front, 0, []byte{3, 255, 98}, api.ErrBytes, 3)
		checkInside(t, "far too few bytes", front, 0, []byte{255, 255, 255, 255, 15, 97}, api.ErrBytes, 6)
		checkInside(t, "no text", front, 0, []byte{3, 97, 255, 98}, api.ErrBytes, 2)
		checkInside(t, "no text, and others", front, 0, []byte{2, 97, 195, 169}, api.ErrBytes, 2)
		checkInside(t, "half a pair", front, 0, []byte{3, 237, 160, 128, 1}, api.ErrBytes, 1)
		checkInside(t, "a long name that is no text", front, 0, named(strings.Repeat("n", 2000)+"\xff"), api.ErrBytes, 2002)
	}
}
