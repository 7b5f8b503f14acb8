package decode

import (
	"bytes"
	"math/rand/v2"
	"slices"
	"strconv"
	"strings"
	"testing"

	"gimlet/api"
	"gimlet/leb"
)

// breaking is other bytes for a piece, that have a fault whatever follows them.
type breaking struct {
	b  []byte
	e  api.Errno
	at int
}

// breakings are some for each kind of piece.
func breakings() map[string][]breaking {
	noNumber := breaking{[]byte{255, 255, 255, 255, 127}, api.ErrBytes, 4}
	many := []breaking{noNumber, {[]byte{129, 128, 1}, api.ErrMany, 0}}
	tag := []breaking{{[]byte{77}, api.ErrTag, 0}}
	return map[string][]breaking{
		anyNumber: {noNumber}, countOf: many, countOfOne: {noNumber, {[]byte{2}, api.ErrMany, 0}},
		countCodes: append(many, breaking{[]byte{1}, api.ErrCount, 0}, breaking{[]byte{131, 0}, api.ErrCount, 0}),
		typeNumber: {noNumber, {leb.PutU(1 << 31), api.ErrRange, 0}}, nought: {noNumber, {[]byte{1}, api.ErrTag, 0}},
		sizeBytes: {noNumber}, sizeCode: {noNumber},
		aName:   {noNumber, {named(strings.Repeat("n", 1001)), api.ErrLong, 0}, {named("ab\xff"), api.ErrBytes, 3}},
		aType:   {{[]byte{95}, api.ErrTag, 0}, {[]byte{96, 0, 2}, api.ErrMany, 2}},
		ofTable: {{[]byte{2}, api.ErrTag, 0}, {[]byte{1, 4, 3}, api.ErrMany, 2}}, ofMemory: {{[]byte{2}, api.ErrTag, 0}, {[]byte{1, 4, 3}, api.ErrMany, 2}},
		aList: {{[]byte{1, 5, 11}, api.ErrOp, 1}, {[]byte{2, 1}, api.ErrTag, 1}}, aCode: {{[]byte{0, 5}, api.ErrOp, 1}},
		someBytes: {}, funcByte: tag, tableByte: tag, wordByte: tag, mutByte: tag, kindByte: tag,
	}
}

// grown has as many bytes as a code's size says.
func grown(b []byte, p piece) []byte {
	if p.kind == aCode {
		return append(b[:len(b):len(b)], make([]byte, len(p.b)-len(b))...)
	}
	return b
}

// P9.2: of two faults in a section the one ahead of the other.
func TestFirstInSection(t *testing.T) {
	all := breakings()
	for _, l := range layouts() {
		for k, p := range l.pieces {
			for _, first := range all[p.kind] {
				one := l
				one.pieces = slices.Clone(l.pieces)
				one.pieces[k].b = grown(first.b, p)
				_, start := one.own(k, nil)
				for later := k; later < len(l.pieces); later++ {
					other := all[l.pieces[later].kind]
					if later == k {
						other = []breaking{first}
					}
					for _, second := range other {
						own, _ := one.own(later, grown(second.b, l.pieces[later]))
						checkInside(t, p.kind+" and "+l.pieces[later].kind, l.front, l.id, own, first.e, start+first.at)
						checkInside(t, p.kind+", and bytes left", l.front, l.id, append(own, 11, 11, 11), first.e, start+first.at)
					}
				}
			}
		}
	}
}

// P9.2: of faults in two sections, or in a section and in what stands around the next one, the one ahead of the other.
func TestFirstOfSections(t *testing.T) {
	all := breakings()
	for _, l := range layouts() {
		for k, p := range l.pieces {
			for _, fault := range all[p.kind] {
				own, start := l.own(k, grown(fault.b, p))
				b := headed(l.front, section(l.id, own...))
				want := faultAt(fault.e, len(b)-len(own)+start+fault.at)
				for _, next := range layouts() {
					if next.id > l.id {
						checkFault(t, "two sections", slices.Concat(b, section(next.id, 255)), want)
						checkFault(t, "a section that is too short", slices.Concat(b, []byte{next.id, 9}), want)
						checkFault(t, "a size that is no number", slices.Concat(b, []byte{next.id, 255, 255, 255, 255, 255}), want)
					} else {
						checkFault(t, "a section in another order", slices.Concat(b, section(next.id, 0)), want)
					}
				}
				checkFault(t, "no such section", slices.Concat(b, []byte{99}), want)
				checkFault(t, "a wrong section 0", slices.Concat(b, section(0, 1, 255)), want)
				// A section 0 ahead of it is wrong first.
				checkFault(t, "a wrong section 0 ahead", headed(section(0, 2, 97, 200), b[8:]), faultAt(api.ErrBytes, 12))
			}
		}
	}
}

// P9.1, P9.2: pairs of faults of other kinds, each with the one that comes first.
func TestFirst(t *testing.T) {
	funcs := section(3, 1, 0)
	for _, p := range []struct {
		what string
		b    []byte
		want api.Fault
	}{
		{"fewer bytes than its size, ahead of what is wrong in them", []byte{5, 9, 7}, faultAt(api.ErrBytes, 11)},
		{"bytes left, ahead of another order", slices.Concat(section(5, 0, 0), section(5, 0)), faultAt(api.ErrSize, 11)},
		{"another order, ahead of what is wrong in it", slices.Concat(section(5, 0), section(5, 7)), faultAt(api.ErrOrder, 11)},
		{"no such section, ahead of its size", []byte{12, 255, 255, 255, 255, 255}, faultAt(api.ErrSection, 8)},
		{"no such section, ahead of the order", []byte{11, 1, 0, 12, 0}, faultAt(api.ErrSection, 11)},
		{"functions without code, behind a fault in data", slices.Concat(funcs, section(11, 1, 1)), faultAt(api.ErrTag, 8+4+3)},
		{"functions without code, behind bytes left in data", slices.Concat(funcs, section(11, 0, 0)), faultAt(api.ErrSize, 8+4+3)},
		{"functions without code, behind an unended section", slices.Concat(funcs, []byte{11, 3, 0}), faultAt(api.ErrBytes, 8+4+3)},
		{"functions without code, behind a wrong section 0", slices.Concat(funcs, section(0, 1, 255)), faultAt(api.ErrBytes, 8+4+3)},
		{"functions without code, behind another order", slices.Concat(funcs, section(2, 0)), faultAt(api.ErrOrder, 8+4)},
		{"functions without code, behind no such section", slices.Concat(funcs, []byte{200}), faultAt(api.ErrSection, 8+4)},
		{"another number of codes, ahead of the codes", slices.Concat(funcs, section(10, 2, 1, 255, 9)), faultAt(api.ErrCount, 8+4+2)},
		{"another number of codes, ahead of bytes left", slices.Concat(funcs, section(10, 0, 2, 0, 11)), faultAt(api.ErrCount, 8+4+2)},
		{"bytes left in a code, ahead of those in the section", slices.Concat(funcs, section(10, 1, 3, 0, 11, 11, 11)), faultAt(api.ErrSize, 8+4+2+4)},
		{"bytes left in a code, ahead of the next one", slices.Concat(section(3, 2, 0, 0), section(10, 2, 3, 0, 11, 11, 1, 255)), faultAt(api.ErrSize, 8+5+2+4)},
		{"a code's size beyond the section, ahead of the code", slices.Concat(funcs, section(10, 1, 9, 1, 1, 1)), faultAt(api.ErrBytes, 8+4+2+5)},
		{"fewer Bytes than their number, ahead of the next data", section(11, 2, 0, 11, 9, 1, 1), faultAt(api.ErrBytes, 8+2+6)},
		{"no text, ahead of 1,001 bytes", section(2, append([]byte{1}, named(strings.Repeat("n", 1000)+"\xff")...)...), faultAt(api.ErrBytes, 8+3+3+1000)},
		{"too few bytes, ahead of 1,001 of them", section(2, append([]byte{1}, named(strings.Repeat("n", 1001))[:900]...)...), faultAt(api.ErrBytes, 8+3+901)},
		{"too many codes, ahead of another number", slices.Concat(funcs, section(10, 129, 128, 1)), faultAt(api.ErrMany, 8+4+2)},
	} {
		checkFault(t, p.what, headed(p.b), p.want)
	}
	for _, b := range [][]byte{nil, {1, 1}, bytes.Repeat([]byte{0}, 1<<20)} {
		checkNoSections(t, "no head, ahead of all else", append([]byte("\x00asm\x02\x00\x00\x00"), b...)[:min(8+len(b), 1<<20)], faultAt(api.ErrMagic, 4))
	}
}

// someModules are the bytes of several: with something everywhere, with as little as that can be, with longer numbers, with empty lists, with sections 0 between.
func someModules() [][]byte {
	var wide, apart []byte
	for _, l := range layouts() {
		if l.id == 10 {
			wide = append(wide, section(10, 2, 2, 0, 11, 131, 0, 128, 0, 11)...)
			continue
		}
		var own []byte
		for _, p := range l.pieces {
			if slices.Contains(numbers(), p.kind) {
				n, _, _ := leb.GetU(p.b, 0)
				p.b = longer(n)[1]
			}
			own = append(own, p.b...)
		}
		wide = slices.Concat(wide, []byte{l.id}, longer(uint32(len(own)))[1], own)
	}
	for id := range byte(12) {
		apart = slices.Concat(apart, section(0, 1, 'a'+id, 200), empty(id))
	}
	return [][]byte{encoded(sample()), encoded(bare()), headed(wide), headed(apart), headed(between(section(1, 1, 96, 0, 0), section(3, 1, 0), section(10, 1, 3, 0, 1, 11)))}
}

// P9.3, and all of P9.1 and P9.2 against the second reading: every prefix.
func TestPrefixes(t *testing.T) {
	for _, b := range someModules() {
		if _, f := Module(b); f != (api.Fault{}) {
			t.Fatal(b, f)
		}
		for end := range b {
			check(t, b[:end])
		}
	}
}

// P9.3, and all of P9.1 and P9.2 against the second reading: every change of one byte, every byte left out, and others put in.
func TestOneByte(t *testing.T) {
	for what, b := range someModules() {
		t.Run(strconv.Itoa(what), func(t *testing.T) {
			t.Parallel()
			checkOneByte(t, b)
		})
	}
}

func checkOneByte(t *testing.T, b []byte) {
	accepted := 0
	for k := range b {
		other := slices.Clone(b)
		for c := range 256 {
			other[k] = byte(c)
			check(t, other)
			if _, f := Module(other); f.Err == api.OK {
				accepted++
			}
		}
		check(t, slices.Delete(slices.Clone(b), k, k+1))
		for _, c := range []byte{0, 1, 2, 5, 11, 64, 127, 128, 255} {
			check(t, slices.Insert(slices.Clone(b), k, c))
		}
	}
	if accepted < 2*len(b) {
		t.Errorf("only %d were modules", accepted)
	}
}

// The same for many changes at once, among them pieces of other modules.
func TestManyBytes(t *testing.T) {
	t.Parallel()
	r := rand.New(rand.NewPCG(9, 9))
	all := someModules()
	for _, l := range layouts() {
		own, _ := l.own(-1, nil)
		all = append(all, l.whole(own))
	}
	accepted := 0
	for range 60000 {
		b := slices.Clone(all[r.IntN(len(all))])
		for range 1 + r.IntN(3) {
			b = changed(r, b, all[r.IntN(len(all))])
		}
		check(t, b)
		if _, f := Module(b); f.Err == api.OK {
			accepted++
		}
	}
	if accepted < 1000 {
		t.Errorf("only %d were modules", accepted)
	}
}

// changed is bytes with a change, or with a piece of others.
func changed(r *rand.Rand, b, from []byte) []byte {
	k := min(8, len(b)) + r.IntN(max(1, len(b)-8))
	at := min(k, len(b))
	switch r.IntN(5) {
	case 0:
		return slices.Insert(b, at, byte(r.IntN(256)))
	case 1:
		return slices.Delete(b, at, min(len(b), at+1+r.IntN(2)))
	case 2:
		start := 8 + r.IntN(len(from)-8)
		return slices.Insert(b, at, from[start:start+r.IntN(len(from)-start)]...)
	case 3:
		l, _ := Sections(b)
		if len(l) == 0 {
			return b
		}
		// A section's size, and what is in it, grow or shrink together.
		s := l[r.IntN(len(l))]
		own := changedOwn(r, b[s.At:s.End])
		return slices.Concat(b[:s.At-1-sizeBefore(b, s)], section(byte(s.ID), own...), b[s.End:])
	}
	if at < len(b) {
		b[at] = byte(r.IntN(256))
	}
	return b
}

// sizeBefore is how many bytes a section's size has.
func sizeBefore(b []byte, s api.Chunk) int {
	for n := 1; ; n++ {
		if b[s.At-n-1] == byte(s.ID) {
			if _, next, f := leb.GetU(b, s.At-n); f.Err == api.OK && next == s.At {
				return n
			}
		}
	}
}

func changedOwn(r *rand.Rand, own []byte) []byte {
	own = slices.Clone(own)
	for range 1 + r.IntN(2) {
		at := r.IntN(len(own) + 1)
		switch {
		case r.IntN(2) == 0 || at == len(own):
			own = slices.Insert(own, at, []byte{0, 1, 2, 11, 127, 128, 200, byte(r.IntN(256))}[r.IntN(8)])
		default:
			own = slices.Delete(own, at, at+1)
		}
	}
	return own
}
