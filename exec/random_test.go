package exec

import (
	"gimlet/api"
)

// maker makes valid lists: it keeps how many words a list has, and never takes more.
type maker struct {
	*dice
	m       api.Module
	locals  int
	returns int
	labels  []int // how many words a jump takes to each list that is open, the innermost last
	left    int   // how many instructions may still be made
}

// draft is a list that is being made.
type draft struct {
	l    []api.Instr
	own  int
	dead bool
}

func (x *draft) can(n int) bool { return x.dead || x.own >= n }

func (x *draft) add(i api.Instr, takes, leaves int) {
	x.l = append(x.l, i)
	x.own = max(0, x.own-takes) + leaves
}

func (x *draft) end(i api.Instr) {
	x.l = append(x.l, i)
	x.own, x.dead = 0, true
}

// sequence returns a valid list that returns so many words, and to which a jump takes so many.
func (g *maker) sequence(returns, jump int) []api.Instr {
	g.labels = append(g.labels, jump)
	x := &draft{}
	for range g.below(9) {
		if g.left <= 0 {
			break
		}
		g.left--
		g.one(x)
	}
	for x.own > returns {
		x.add(op(api.OpDrop), 1, 0)
	}
	for !x.dead && x.own < returns {
		x.add(g.number(), 0, 1)
	}
	g.labels = g.labels[:len(g.labels)-1]
	return x.l
}

// number pushes one that is small, or at an edge.
func (g *maker) number() api.Instr {
	edges := []uint32{1<<32 - 1, 1 << 31, 1<<31 - 1, pageBytes - 4, pageBytes - 1, pageBytes, 2*pageBytes - 2, 256, 0xfe80}
	if g.often(20) {
		return word(edges[g.below(len(edges))])
	}
	return word(uint32(g.below(6)))
}

// one adds an instruction, if the one that is chosen finds its words.
func (g *maker) one(x *draft) {
	switch g.below(14) {
	case 0, 1, 2:
		x.add(g.number(), 0, 1)
	case 3, 4, 5, 6:
		g.plain(x)
	case 7, 8:
		g.nested(x)
	case 9, 10:
		g.jump(x)
	case 11, 12:
		g.call(x)
	case 13:
		if x.can(g.returns) && g.often(20) {
			x.end(op(api.OpReturn))
		} else if g.often(4) {
			x.end(op(api.OpUnreachable))
		}
	}
}

// plains are the operations with a shape: how many words they take and leave.
func plains() [][3]int {
	all := [][3]int{{api.OpNop}, {api.OpDrop, 1}, {api.OpSelect, 3, 1}}
	for range 3 { // as often as several others
		all = append(all, [][3]int{{api.OpGet, 0, 1}, {api.OpSet, 1}, {api.OpTee, 1, 1}, {api.OpGetGlobal, 0, 1}, {api.OpSetGlobal, 1}, {api.OpSize, 0, 1}, {api.OpGrow, 1, 1}}...)
	}
	for o := api.OpLoad; o <= api.OpStore16; o++ {
		switch o {
		case api.OpStore, api.OpStore8, api.OpStore16:
			all = append(all, [3]int{o, 2, 0})
		case api.OpLoad, api.OpLoad8S, api.OpLoad8U, api.OpLoad16S, api.OpLoad16U:
			all = append(all, [3]int{o, 1, 1})
		}
	}
	for o := api.OpEqz; o <= api.OpRotr; o++ {
		if n := taken(o); n > 0 {
			all = append(all, [3]int{o, n, 1})
		}
	}
	return all
}

func (g *maker) plain(x *draft) {
	ops := plains()
	o := ops[g.below(len(ops))]
	i := op(o[0])
	switch o[0] {
	case api.OpGet, api.OpSet, api.OpTee:
		if g.locals == 0 {
			return
		}
		i.A = uint32(g.below(g.locals))
	case api.OpSetGlobal, api.OpGetGlobal:
		k := g.below(len(g.m.Globals) + 1)
		if k == len(g.m.Globals) || o[0] == api.OpSetGlobal && !g.m.Globals[k].Mut {
			return
		}
		i.A = uint32(k)
	}
	if o[0] >= api.OpLoad && o[0] <= api.OpGrow {
		if len(g.m.Memories) == 0 {
			return
		}
		if o[0] < api.OpSize && g.often(50) {
			i.B = []uint32{1, 2, 4, pageBytes - 5, pageBytes - 1, 1<<32 - 1}[g.below(6)]
		}
	}
	if x.can(o[1]) {
		x.add(i, o[1], o[2])
	}
}

func (g *maker) nested(x *draft) {
	if len(g.labels) > 12 {
		return
	}
	r := g.below(2)
	switch g.below(3) {
	case 0:
		x.add(block(r, g.sequence(r, r)...), 0, r)
	case 1:
		x.add(loop(r, g.sequence(r, 0)...), 0, r)
	case 2:
		if x.can(1) {
			x.add(either(r, g.sequence(r, r), g.sequence(r, r)), 1, r)
		}
	}
}

// takes returns how many words a jump to a label takes.
func (g *maker) takes(label int) int { return g.labels[len(g.labels)-1-label] }

func (g *maker) jump(x *draft) {
	label := g.below(len(g.labels))
	k := g.takes(label)
	switch g.below(3) {
	case 0:
		if x.can(k) && g.often(40) {
			x.end(br(uint32(label)))
		}
	case 1:
		if x.can(1 + k) {
			x.add(brIf(uint32(label)), 1+k, k)
		}
	case 2:
		if !x.can(1+k) || g.often(20) {
			return
		}
		var tags []uint32
		for n := range len(g.labels) {
			if g.takes(n) == k && g.often(50) {
				tags = append(tags, uint32(n))
			}
		}
		x.end(brTable(uint32(label), tags...))
	}
}

// kindsOf returns the numbers of the types of all functions.
func kindsOf(m api.Module) []int {
	var kinds []int
	for _, i := range m.Imports {
		kinds = append(kinds, i.Type)
	}
	for _, f := range m.Funcs {
		kinds = append(kinds, f.Type)
	}
	return kinds
}

func (g *maker) call(x *draft) {
	kinds := kindsOf(g.m)
	f := g.below(len(kinds))
	if t := g.m.Types[kinds[f]]; g.often(50) {
		if x.can(t.Params) {
			x.add(calling(uint32(f)), t.Params, t.Results)
		}
		return
	}
	if len(g.m.Tables) == 0 {
		return
	}
	// Mostly an entry that may have a function, of mostly its type.
	entry := g.below(len(g.m.Elems[0].Funcs) + 1)
	kind := g.below(len(g.m.Types))
	if entry < len(g.m.Elems[0].Funcs) && g.often(80) {
		kind = kinds[g.m.Elems[0].Funcs[entry]]
	}
	if t := g.m.Types[kind]; x.can(t.Params) {
		x.add(word(uint32(entry+1)), 0, 1)
		x.add(with(api.OpIndirect, uint32(kind)), 1+t.Params, t.Results)
	}
}

// made returns a valid module which can be made ready, with something of most kinds.
func made(d *dice) api.Module {
	m := api.Module{Types: append(types(), api.FuncType{Params: 1 + d.below(4), Results: d.below(2)})}
	for range d.below(4) {
		m.Imports = append(m.Imports, []api.Import{{Module: "host", Name: "getc", Type: typeGet}, {Module: "host", Name: "putc", Type: typePut}}[d.below(2)])
	}
	for range 1 + d.below(4) {
		m.Funcs = append(m.Funcs, api.Func{Type: d.below(len(m.Types)), Code: api.Code{Locals: d.below(3)}})
	}
	kinds := kindsOf(m)
	if d.often(80) {
		m.Tables = []api.Limits{{Min: 5}}
		m.Elems = []api.Elem{{Offset: code(word(1)), Funcs: []uint32{uint32(d.below(len(kinds))), uint32(d.below(len(kinds))), uint32(len(kinds) - 1)}[:1+d.below(3)]}}
	}
	if d.often(80) {
		m.Memories = []api.Limits{{Min: uint32(d.below(3)), Max: 3, Capped: true}}
		if m.Memories[0].Min > 0 {
			m.Datas = []api.Data{{Offset: code(word(uint32(d.below(4)))), Bytes: []byte("\x80abc\xff")}}
		}
	}
	for range d.below(4) {
		m.Globals = append(m.Globals, api.Global{Mut: d.often(70), Init: code(word(uint32(d.below(9))))})
	}
	for k := range m.Funcs {
		t := m.Types[m.Funcs[k].Type]
		g := &maker{dice: d, m: m, locals: t.Params + m.Funcs[k].Code.Locals, returns: t.Results, left: 40}
		m.Funcs[k].Code.L = g.sequence(t.Results, t.Results)
	}
	for n, kind := range kinds {
		m.Exports = append(m.Exports, api.Export{Name: string(rune('a' + n)), Index: uint32(n)})
		if m.Types[kind] == (api.FuncType{}) && d.often(50) {
			m.Started, m.Start = true, uint32(n)
		}
	}
	return m
}
