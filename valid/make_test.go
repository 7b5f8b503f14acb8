package valid

import (
	"slices"
	"strconv"

	"gimlet/api"
	"gimlet/instr"
)

// dice are numbers that look as if by chance, the same ones each time.
type dice uint64

func (d *dice) below(n int) int {
	*d = *d*6364136223846793005 + 1442695040888963407
	return int(uint64(*d) >> 33 % uint64(n))
}

func (d *dice) often(percent int) bool { return d.below(100) < percent }

// maker makes valid lists: it keeps how many words a list has, and never takes more.
type maker struct {
	*dice
	m       api.Module
	locals  int
	returns int
	labels  []int // how many words a jump takes to each list that is open, the innermost last
	left    int   // how many instructions may still be made
}

// draft is a list that is being made.
type draft struct {
	l    []api.Instr
	own  int
	dead bool
}

func (x *draft) can(n int) bool { return x.dead || x.own >= n }

func (x *draft) add(i api.Instr, takes, leaves int) {
	x.l = append(x.l, i)
	x.own = max(0, x.own-takes) + leaves
}

func (x *draft) end(i api.Instr) {
	x.l = append(x.l, i)
	x.own, x.dead = 0, true
}

// list returns a valid list that returns so many words, and to which a jump takes so many.
func (g *maker) list(returns, jump int) []api.Instr {
	g.labels = append(g.labels, jump)
	x := &draft{}
	for range g.below(9) {
		if g.left <= 0 {
			break
		}
		g.left--
		g.one(x)
	}
	for x.own > returns {
		x.add(op(api.OpDrop), 1, 0)
	}
	for !x.dead && x.own < returns {
		x.add(word(int32(g.below(9)-4)), 0, 1)
	}
	g.labels = g.labels[:len(g.labels)-1]
	return x.l
}

// one adds an instruction, if the one that is chosen finds its words.
func (g *maker) one(x *draft) {
	switch g.below(12) {
	case 0, 1, 2:
		x.add(word(int32(g.below(100))), 0, 1)
	case 3, 4, 5:
		g.plain(x)
	case 6, 7:
		g.nested(x)
	case 8:
		g.jump(x)
	case 9:
		g.call(x)
	case 10:
		if returns := g.returns; x.can(returns) && g.often(30) {
			x.end(op(api.OpReturn))
		} else if g.often(20) {
			x.end(op(api.OpUnreachable))
		}
	case 11:
		if g.locals > 0 {
			x.add(with(api.OpGet, uint32(g.below(g.locals))), 0, 1)
		}
	}
}

// plainOps are the operations with a shape.
func plainOps() []int {
	var all []int
	for o := range 256 {
		if _, is := shapeTable[o]; is {
			all = append(all, o)
		}
	}
	return all
}

func (g *maker) plain(x *draft) {
	ops := plainOps()
	o := ops[g.below(len(ops))]
	i := op(o)
	most, aligned := alignTable[o]
	switch o {
	case api.OpGet, api.OpSet, api.OpTee:
		if g.locals == 0 {
			return
		}
		i.A = uint32(g.below(g.locals))
	case api.OpSetGlobal, api.OpGetGlobal:
		k := g.below(len(g.m.Globals) + 1)
		if k == len(g.m.Globals) || o == api.OpSetGlobal && !g.m.Globals[k].Mut {
			return
		}
		i.A = uint32(k)
	case api.OpConst:
		i.N = int32(g.below(1000) - 500)
	case api.OpSize, api.OpGrow:
		if len(g.m.Memories) == 0 {
			return
		}
	}
	if aligned {
		if len(g.m.Memories) == 0 {
			return
		}
		i.A, i.B = uint32(g.below(int(most)+1)), uint32(g.below(9))
	}
	if s := shapeTable[o]; x.can(s[0]) {
		x.add(i, s[0], s[1])
	}
}

func (g *maker) nested(x *draft) {
	if len(g.labels) > 12 {
		return
	}
	r := g.below(2)
	switch g.below(3) {
	case 0:
		x.add(block(r, g.list(r, r)...), 0, r)
	case 1:
		x.add(loop(r, g.list(r, 0)...), 0, r)
	case 2:
		if x.can(1) {
			i := either(r, g.list(r, r), g.list(r, r))
			x.add(i, 1, r)
		}
	}
}

// takes returns how many words a jump to a label takes.
func (g *maker) takes(label int) int { return g.labels[len(g.labels)-1-label] }

func (g *maker) jump(x *draft) {
	label := g.below(len(g.labels))
	k := g.takes(label)
	switch g.below(3) {
	case 0:
		if x.can(k) && g.often(40) {
			x.end(with(api.OpBr, uint32(label)))
		}
	case 1:
		if x.can(1 + k) {
			x.add(with(api.OpBrIf, uint32(label)), 1+k, k)
		}
	case 2:
		if !x.can(1+k) || g.often(20) {
			return
		}
		var tags []uint32
		for n := range len(g.labels) {
			if g.takes(n) == k && g.often(50) {
				tags = append(tags, uint32(n))
			}
		}
		x.end(brTable(uint32(label), tags...))
	}
}

func (g *maker) call(x *draft) {
	kinds := kindsOf(g.m)
	f := g.below(len(kinds))
	t := g.m.Types[kinds[f]]
	if g.often(50) {
		if x.can(t.Params) {
			x.add(with(api.OpCall, uint32(f)), t.Params, t.Results)
		}
		return
	}
	n := g.below(len(g.m.Types))
	if t := g.m.Types[n]; len(g.m.Tables) > 0 && x.can(1+t.Params) {
		x.add(with(api.OpIndirect, uint32(n)), 1+t.Params, t.Results)
	}
}

// kindsOf returns the numbers of the types of all functions.
func kindsOf(m api.Module) []int {
	var kinds []int
	for _, i := range m.Imports {
		kinds = append(kinds, i.Type)
	}
	for _, f := range m.Funcs {
		kinds = append(kinds, f.Type)
	}
	return kinds
}

// made returns a valid module, with something of most kinds.
func made(d *dice) api.Module {
	m := api.Module{Types: []api.FuncType{{}, {Params: 1, Results: 1}}}
	for range d.below(4) {
		m.Types = append(m.Types, api.FuncType{Params: d.below(4), Results: d.below(2)})
	}
	for k := range d.below(3) {
		m.Imports = append(m.Imports, api.Import{Module: "host", Name: strconv.Itoa(k), Type: d.below(len(m.Types))})
	}
	for range 1 + d.below(4) {
		m.Funcs = append(m.Funcs, api.Func{Type: d.below(len(m.Types)), Code: api.Code{Locals: d.below(3)}})
	}
	if d.often(70) {
		m.Tables = []api.Limits{{Min: uint32(d.below(4))}}
	}
	if d.often(70) {
		m.Memories = []api.Limits{{Min: uint32(d.below(3)), Max: 3, Capped: true}}
	}
	for range d.below(4) {
		m.Globals = append(m.Globals, api.Global{Mut: d.often(60), Init: list(word(int32(d.below(9) - 4)))})
	}
	for k := range m.Funcs {
		t := m.Types[m.Funcs[k].Type]
		g := &maker{dice: d, m: m, locals: t.Params + m.Funcs[k].Code.Locals, returns: t.Results, left: 60}
		m.Funcs[k].Code.L = g.list(t.Results, t.Results)
	}
	refer(&m, d)
	return m
}

// refer adds what refers to other items: exports, a start, elements, data.
func refer(m *api.Module, d *dice) {
	functions := len(m.Imports) + len(m.Funcs)
	for k := range d.below(5) {
		kind := d.below(4)
		if many := []int{functions, len(m.Tables), len(m.Memories), len(m.Globals)}[kind]; many > 0 {
			m.Exports = append(m.Exports, api.Export{Name: "e" + strconv.Itoa(k), Kind: kind, Index: uint32(d.below(many))})
		}
	}
	for n, kind := range kindsOf(*m) {
		if m.Types[kind] == (api.FuncType{}) && d.often(50) {
			m.Started, m.Start = true, uint32(n)
		}
	}
	for range d.below(3) {
		if len(m.Tables) > 0 {
			m.Elems = append(m.Elems, api.Elem{Offset: words(1), Funcs: []uint32{uint32(d.below(functions)), uint32(functions - 1)}[:d.below(3)]})
		}
		if len(m.Memories) > 0 {
			m.Datas = append(m.Datas, api.Data{Offset: words(1), Bytes: []byte("abc")[:d.below(4)]})
		}
	}
}

// places returns each instruction of a list, with those within it, by its number, from 1 on.
func places(l []api.Instr) []*api.Instr {
	var all []*api.Instr
	for k := range l {
		all = append(all, &l[k])
		all = append(all, places(l[k].L)...)
		all = append(all, places(l[k].E)...)
	}
	return all
}

// spoilt returns the module with one thing, or a few, otherwise: mostly one that is not valid any more.
func spoilt(m api.Module, d *dice) api.Module {
	m = cloned(m)
	for range 1 + d.below(2) {
		f := &m.Funcs[d.below(len(m.Funcs))]
		switch d.below(10) {
		case 0, 1, 2:
			spoilItem(&m, d)
		case 3:
			spoilTables(f.Code.L, d)
		default:
			f.Code.L = spoiltList(f.Code.L, d)
		}
	}
	return m
}

// spoilTables gives each table of labels one more.
func spoilTables(l []api.Instr, d *dice) {
	for _, i := range places(l) {
		if i.Op == api.OpBrTable {
			i.Tags = append(i.Tags, uint32(d.below(4)))
		}
	}
}

// spoiltList returns the list with one instruction in it changed, missing, twice, or of another operation.
func spoiltList(l []api.Instr, d *dice) []api.Instr {
	if k := d.below(len(l) + 2); k < len(l) && len(l[k].L)+len(l[k].E) > 0 && d.often(70) {
		l[k].L = spoiltList(l[k].L, d)
		return l
	}
	if len(l) == 0 {
		return list(stray(d))
	}
	k := d.below(len(l))
	switch d.below(8) {
	case 0:
		return slices.Delete(l, k, k+1)
	case 1:
		return slices.Insert(l, k, stray(d))
	case 2:
		return append(l, stray(d))
	case 3:
		l[k] = stray(d)
	case 4:
		l[k].L, l[k].E = l[k].E, l[k].L
	case 5:
		if l[k].Op == api.OpBlock || l[k].Op == api.OpLoop || l[k].Op == api.OpIf {
			l[k].Results = 1 - l[k].Results
		}
	default:
		spoilNumber(&l[k], d)
	}
	return l
}

func spoilNumber(i *api.Instr, d *dice) {
	if len(i.Tags) > 0 && d.often(60) {
		i.Tags[d.below(len(i.Tags))] = uint32(d.below(5))
		return
	}
	changed := *i
	changed.A += uint32(d.below(5) - 2)
	if instr.Check(list(changed)) == api.OK {
		*i = changed
	}
}

// stray is an instruction that fits hardly anywhere.
func stray(d *dice) api.Instr {
	all := alphabet()
	return all[d.below(len(all))]
}

func spoilItem(m *api.Module, d *dice) {
	some := func(n int) bool { return n > 0 && d.often(40) }
	if n := len(m.Imports); some(n) {
		m.Imports[d.below(n)].Type = d.below(8)
	}
	if n := len(m.Funcs); some(n) {
		m.Funcs[d.below(n)].Type = d.below(8)
	}
	if n := len(m.Globals); some(n) {
		m.Globals[d.below(n)].Init = [][]api.Instr{nil, nops(1), words(2), {with(api.OpGet, 0)}}[d.below(4)]
	}
	if n := len(m.Exports); some(n) {
		m.Exports[d.below(n)] = api.Export{Name: "e" + strconv.Itoa(d.below(5)), Kind: d.below(4), Index: uint32(d.below(5))}
	}
	if n := len(m.Elems); some(n) {
		m.Elems[d.below(n)] = api.Elem{Offset: words(d.below(3)), Funcs: []uint32{uint32(d.below(7))}}
	}
	if n := len(m.Datas); some(n) {
		m.Datas[d.below(n)].Offset = words(d.below(3))
	}
	switch d.below(8) {
	case 0:
		m.Tables = nil
	case 1:
		m.Memories = nil
	case 2:
		m.Started, m.Start = true, uint32(d.below(8))
	case 3:
		m.Types = m.Types[:len(m.Types)-1]
	}
}

// alphabet is a few instructions of each kind, valid by themselves.
func alphabet() []api.Instr {
	return list(
		op(api.OpUnreachable), op(api.OpNop), word(1), op(api.OpDrop), op(api.OpAdd), op(api.OpEqz), op(api.OpSelect), op(api.OpReturn),
		with(api.OpGet, 0), with(api.OpGet, 5), with(api.OpSet, 1), with(api.OpTee, 4), with(api.OpGetGlobal, 0), with(api.OpSetGlobal, 0), with(api.OpSetGlobal, 1), with(api.OpSetGlobal, 2),
		with(api.OpBr, 0), with(api.OpBr, 1), with(api.OpBr, 2), with(api.OpBrIf, 0), with(api.OpBrIf, 1), brTable(0), brTable(1, 0), brTable(0, 1), brTable(0, 0, 2),
		with(api.OpCall, 0), with(api.OpCall, 1), with(api.OpCall, 2), with(api.OpCall, 4), with(api.OpIndirect, 0), with(api.OpIndirect, 3), with(api.OpIndirect, 6),
		with(api.OpLoad, 2), with(api.OpLoad8U, 1), with(api.OpStore16, 1), op(api.OpSize), op(api.OpGrow),
		block(0), block(1, word(1)), loop(1, word(1)), loop(0, with(api.OpBr, 1)), either(0, nil, nil), either(1, words(1), nil), either(1, words(1), words(1)),
	)
}

// several is a valid module with several items in each list that may have them; nothing in its functions needs its table or its memory.
func several() api.Module {
	m := rich()
	m.Imports = append(m.Imports, api.Import{Module: "host", Name: "go", Type: 0})
	m.Funcs = append(m.Funcs, api.Func{Type: 0})
	m.Exports = []api.Export{{Name: "f", Index: 3}, {Name: "g", Kind: api.KindGlobal, Index: 1}, {Name: "", Index: 0}}
	m.Started, m.Start = true, 2
	m.Elems = []api.Elem{{Offset: words(1), Funcs: []uint32{0, 4}}, {Offset: words(1)}, {Offset: words(1), Funcs: []uint32{5}}}
	m.Datas = []api.Data{{Offset: words(1), Bytes: []byte("ab")}, {Offset: words(1)}, {Offset: words(1), Bytes: []byte("c")}}
	return m
}
