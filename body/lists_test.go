package body

import (
	"math"
	"slices"

	"gimlet/api"
	"gimlet/leb"
)

// only is the list of a single instruction.
func only(i api.Instr) []api.Instr { return []api.Instr{i} }

func nop() api.Instr { return api.Instr{Op: api.OpNop} }

func nops(n int) []api.Instr { return slices.Repeat(only(nop()), n) }

// brTable has so many labels ahead of its last one.
func brTable(labels int) api.Instr {
	return api.Instr{Op: api.OpBrTable, Tags: make([]uint32, labels)}
}

// wraps are the ways in which an instruction may have others in it.
func wraps() []func([]api.Instr) api.Instr {
	return []func([]api.Instr) api.Instr{
		func(l []api.Instr) api.Instr { return api.Instr{Op: api.OpBlock, L: l} },
		func(l []api.Instr) api.Instr { return api.Instr{Op: api.OpLoop, Results: 1, L: l} },
		func(l []api.Instr) api.Instr { return api.Instr{Op: api.OpIf, L: l} },
		func(l []api.Instr) api.Instr { return api.Instr{Op: api.OpIf, Results: 1, E: l} },
		func(l []api.Instr) api.Instr { return api.Instr{Op: api.OpIf, L: nops(1), E: l} },
		func(l []api.Instr) api.Instr { return api.Instr{Op: api.OpIf, L: l, E: nops(2)} },
	}
}

// nest puts an instruction into n others, from the wrap k on by turns (step 1), or all of the same kind (step 0).
func nest(i api.Instr, n, k, step int) []api.Instr {
	l, ways := only(i), wraps()
	for range n {
		l = only(ways[k%len(ways)](l))
		k += step
	}
	return l
}

// edgeWords lie where one more byte is needed, unsigned or signed, and at the ends.
func edgeWords() []uint32 {
	out := []uint32{0, 1, 2, 5, 11, math.MaxUint32, math.MaxUint32 - 1, 1<<31 - 1, 1 << 31, 1<<31 + 1}
	for _, bits := range []int{6, 7, 13, 14, 20, 21, 27, 28} {
		out = append(out, 1<<bits-1, 1<<bits, 1<<bits+1, -(1<<bits - 1), -(1 << bits), -(1<<bits + 1))
	}
	return out
}

// edgeLists are valid lists to stand in another one.
func edgeLists() [][]api.Instr {
	return [][]api.Instr{
		nil,
		nops(1),
		{{Op: api.OpConst, N: 5}, {Op: api.OpDrop}},
		{{Op: api.OpIf}, {Op: api.OpIf, E: nops(1)}},
		{{Op: api.OpBlock, Results: 1, L: only(api.Instr{Op: api.OpConst, N: -65})}},
	}
}

// variants are valid instructions of an operation, with edges in each of its fields.
func variants(r row) []api.Instr {
	out := []api.Instr{{Op: r.op}}
	spread := func(n int, set func(i *api.Instr, k int)) {
		was := out
		out = nil
		for _, i := range was {
			for k := range n {
				set(&i, k)
				out = append(out, i)
			}
		}
	}
	words, lists := edgeWords(), edgeLists()
	tags := [][]uint32{nil, {0}, {1, 2}, {127, 128, 0, math.MaxUint32}, make([]uint32, 127), make([]uint32, 128), words}
	for _, letter := range r.follows {
		switch letter {
		case 'R':
			spread(2, func(i *api.Instr, k int) { i.Results = k })
		case 'T':
			spread(len(tags), func(i *api.Instr, k int) { i.Tags = tags[k] })
		case 'A':
			spread(len(words), func(i *api.Instr, k int) { i.A = words[k] })
		case 'B':
			spread(len(words), func(i *api.Instr, k int) { i.B = words[k] })
		case 'N':
			spread(len(words), func(i *api.Instr, k int) { i.N = int32(words[k]) })
		case 'L':
			spread(len(lists), func(i *api.Instr, k int) { i.L = lists[k] })
			if r.op == api.OpIf {
				spread(len(lists), func(i *api.Instr, k int) { i.E = lists[k] })
			}
		}
	}
	return out
}

// everyVariant has all variants of all operations.
func everyVariant() []api.Instr {
	var out []api.Instr
	for _, r := range table() {
		out = append(out, variants(r)...)
	}
	return out
}

// samples are valid lists of many kinds, none of them great.
func samples() [][]api.Instr {
	var each []api.Instr
	for _, r := range table() {
		all := variants(r)
		each = append(each, all[0], all[len(all)/2], all[len(all)-1])
	}
	out := [][]api.Instr{nil, each, nest(brTable(3), 6, 0, 1), slices.Concat(nest(nop(), 4, 2, 1), each[:6], nest(nop(), 4, 3, 1))}
	for k := range wraps() {
		out = append(out, only(wraps()[k](each[15*k:15*k+30])), nest(api.Instr{Op: api.OpConst, N: -1}, 30, k, 1))
	}
	return out
}

// everyBytes calls f with all lists of at most most bytes that are taken from some.
func everyBytes(some []byte, most int, f func([]byte)) {
	var pieces [][]byte
	for _, c := range some {
		pieces = append(pieces, []byte{c})
	}
	everyPieces(pieces, most, f)
}

// everyPieces calls f with all bytes that are at most most of some pieces.
func everyPieces(some [][]byte, most int, f func([]byte)) {
	f(nil)
	for last := [][]byte{nil}; most > 0; most-- {
		var longer [][]byte
		for _, b := range last {
			for _, piece := range some {
				x := slices.Concat(b, piece)
				f(x)
				if most > 1 {
					longer = append(longer, x)
				}
			}
		}
		last = longer
	}
}

// longer returns a number's bytes in all the ways in which leb can have them, the shortest first: further ones are of its sign.
func longer(shortest []byte, sign byte) [][]byte {
	out := [][]byte{shortest}
	for last := shortest; len(last) < 5; {
		last = slices.Clone(last)
		last[len(last)-1] |= 128
		last = append(last, sign)
		out = append(out, last)
	}
	return out
}

func longerU(n uint32) [][]byte { return longer(leb.PutU(n), 0) }

func longerS(n int32) [][]byte { return longer(leb.PutS(n), byte(n>>31)&127) }

// wrong is bytes in which something is refused, with the fault's place among them.
type wrong struct {
	b  []byte
	at int
}

// wrongU and wrongS are bytes that are no number, whatever follows them.
func wrongU() []wrong {
	out := []wrong{{[]byte{128, 128, 128, 128, 128}, 4}, {[]byte{255, 255, 255, 255, 127}, 4}, {[]byte{130, 128, 128, 128, 255, 0}, 4}}
	for c := 16; c < 256; c++ {
		out = append(out, wrong{[]byte{255, 255, 255, 255, byte(c)}, 4})
	}
	return out
}

func wrongS() []wrong {
	out := []wrong{{[]byte{128, 128, 128, 128, 128}, 4}, {[]byte{255, 255, 255, 255, 15}, 4}, {[]byte{130, 128, 128, 128, 255, 0}, 4}}
	for c := 8; c < 256; c++ {
		if c < 120 || c > 127 {
			out = append(out, wrong{[]byte{255, 255, 255, 255, byte(c)}, 4})
		}
	}
	return out
}
