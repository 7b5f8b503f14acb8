package valid

import (
	"cmp"
	"slices"

	"gimlet/api"
	"gimlet/module"
)

// The chapter read a second time: each list has a scope with words of its own, and what is wrong is thrown.

type scope struct {
	around *scope
	own    int  // how many words of its own it has
	dead   bool // its end can't be reached
	jump   int  // how many words a jump to it takes
}

type thrown struct {
	err api.Errno
	at  int
}

type reading struct {
	m       api.Module
	own     api.Func
	takes   api.FuncType
	counted int
}

// shapes is the table of layer 5, and after it the operations of num.
func shapes() map[int][2]int {
	all := map[int][2]int{
		api.OpNop: {0, 0}, api.OpDrop: {1, 0}, api.OpSelect: {3, 1},
		api.OpGet: {0, 1}, api.OpSet: {1, 0}, api.OpTee: {1, 1}, api.OpGetGlobal: {0, 1}, api.OpSetGlobal: {1, 0},
		api.OpSize: {0, 1}, api.OpGrow: {1, 1}, api.OpConst: {0, 1},
	}
	for o := range aligns() {
		all[o] = [2]int{1, 1}
	}
	for _, o := range []int{api.OpStore, api.OpStore8, api.OpStore16} {
		all[o] = [2]int{2, 0}
	}
	for o := api.OpEqz; o <= api.OpRotr; o++ {
		if o <= api.OpGeU || o >= api.OpClz {
			all[o] = [2]int{2, 1}
		}
	}
	for _, o := range []int{api.OpEqz, api.OpClz, api.OpCtz, api.OpPopcnt} {
		all[o] = [2]int{1, 1}
	}
	return all
}

// aligns are the loads and stores, and the greatest power of two of each.
func aligns() map[int]uint32 {
	return map[int]uint32{
		api.OpLoad: 2, api.OpLoad16S: 1, api.OpLoad16U: 1, api.OpLoad8S: 0, api.OpLoad8U: 0,
		api.OpStore: 2, api.OpStore16: 1, api.OpStore8: 0,
	}
}

var (
	shapeTable = shapes()
	alignTable = aligns()
)

// readBody is what Body returns of a function of a well-formed module.
func readBody(m api.Module, n int) (err api.Errno, at int) {
	defer func() {
		switch x := recover().(type) {
		case nil:
		case thrown:
			err, at = x.err, x.at
		default:
			panic(x)
		}
	}()
	r := &reading{m: m}
	r.need(n >= 0 && n < len(m.Funcs), api.ErrMissing, 0)
	r.own = m.Funcs[n]
	r.need(r.own.Type < len(m.Types), api.ErrMissing, 0)
	r.takes = m.Types[r.own.Type]
	r.list(r.own.Code.L, nil, r.takes.Results, r.takes.Results, 0)
	return api.OK, 0
}

func (r *reading) need(is bool, e api.Errno, at int) {
	if !is {
		panic(thrown{e, at})
	}
}

// list reads a list in a scope, to which a jump takes so many words, and which returns so many; owner is the number of the instruction that has it.
func (r *reading) list(l []api.Instr, around *scope, jump, returns, owner int) {
	s := &scope{around: around, jump: jump}
	for _, i := range l {
		r.counted++
		r.one(i, s, r.counted)
	}
	r.need(s.own >= returns || s.dead, api.ErrUnder, owner)
	r.need(s.own <= returns, api.ErrLeft, owner)
}

func (r *reading) take(s *scope, n, at int) {
	r.need(s.own >= n || s.dead, api.ErrUnder, at)
	s.own = max(0, s.own-n)
}

// jump returns how many words a jump to a label takes.
func (r *reading) jump(s *scope, label uint32, at int) int {
	for ; label > 0 && s != nil; label-- {
		s = s.around
	}
	r.need(s != nil, api.ErrMissing, at)
	return s.jump
}

func (s *scope) die() { s.own, s.dead = 0, true }

func (r *reading) one(i api.Instr, s *scope, at int) {
	switch i.Op {
	case api.OpUnreachable:
		s.die()
	case api.OpBlock:
		r.list(i.L, s, i.Results, i.Results, at)
		s.own += i.Results
	case api.OpLoop:
		r.list(i.L, s, 0, i.Results, at)
		s.own += i.Results
	case api.OpIf:
		r.take(s, 1, at)
		r.list(i.L, s, i.Results, i.Results, at)
		r.list(i.E, s, i.Results, i.Results, at)
		s.own += i.Results
	case api.OpBr:
		r.take(s, r.jump(s, i.A, at), at)
		s.die()
	case api.OpBrIf:
		k := r.jump(s, i.A, at)
		r.take(s, 1, at)
		r.take(s, k, at)
		s.own += k
	case api.OpBrTable:
		r.brTable(i, s, at)
	case api.OpReturn:
		r.take(s, r.takes.Results, at)
		s.die()
	case api.OpCall, api.OpIndirect:
		r.call(i, s, at)
	default:
		r.refer(i, at)
		r.take(s, shapeTable[i.Op][0], at)
		s.own += shapeTable[i.Op][1]
	}
}

func (r *reading) brTable(i api.Instr, s *scope, at int) {
	var all []int
	for _, label := range append(slices.Clone(i.Tags), i.A) {
		all = append(all, r.jump(s, label, at))
	}
	k := all[len(all)-1]
	for _, other := range all {
		r.need(other == k, api.ErrArity, at)
	}
	r.take(s, 1, at)
	r.take(s, k, at)
	s.die()
}

func (r *reading) call(i api.Instr, s *scope, at int) {
	var kinds []int
	for _, f := range r.m.Imports {
		kinds = append(kinds, f.Type)
	}
	for _, f := range r.m.Funcs {
		kinds = append(kinds, f.Type)
	}
	kind := int64(i.A)
	if i.Op == api.OpCall {
		r.need(int64(i.A) < int64(len(kinds)), api.ErrMissing, at)
		kind = int64(kinds[i.A])
	} else {
		r.need(len(r.m.Tables) == 1, api.ErrMissing, at)
	}
	r.need(kind < int64(len(r.m.Types)), api.ErrMissing, at)
	if i.Op == api.OpIndirect {
		r.take(s, 1, at)
	}
	r.take(s, r.m.Types[kind].Params, at)
	s.own += r.m.Types[kind].Results
}

// refer reads what an operation with a shape refers to.
func (r *reading) refer(i api.Instr, at int) {
	most, aligned := alignTable[i.Op]
	switch i.Op {
	case api.OpGet, api.OpSet, api.OpTee:
		r.need(int64(i.A) < int64(r.takes.Params)+int64(r.own.Code.Locals), api.ErrMissing, at)
	case api.OpGetGlobal, api.OpSetGlobal:
		r.need(int64(i.A) < int64(len(r.m.Globals)), api.ErrMissing, at)
		r.need(i.Op == api.OpGetGlobal || r.m.Globals[i.A].Mut, api.ErrMut, at)
	}
	if aligned || i.Op == api.OpSize || i.Op == api.OpGrow {
		r.need(len(r.m.Memories) == 1, api.ErrMissing, at)
		r.need(!aligned || i.A <= most, api.ErrAlign, at)
	}
}

// listed is something wrong with a module, and which of an item's errors it is.
type listed struct {
	api.Wrong
	rank int
}

// readCheck is what Check returns of a well-formed module: the first of everything that is wrong with it.
func readCheck(m api.Module) api.Wrong {
	var all []listed
	functions := len(m.Imports) + len(m.Funcs)
	put := func(wrong bool, e api.Errno, section, item, rank int) {
		if wrong {
			all = append(all, listed{api.Wrong{Err: e, Section: section, Item: item}, rank})
		}
	}
	for k, d := range m.Datas {
		put(len(m.Memories) == 0, api.ErrMissing, 11, k, 0)
		put(!isConst(d.Offset), api.ErrConst, 11, k, 1)
	}
	for k, f := range m.Funcs {
		if e, at := readBody(m, k); e != api.OK {
			all = append(all, listed{api.Wrong{Err: e, Section: 10, Item: k, At: at}, 0})
		}
		put(f.Type >= len(m.Types), api.ErrMissing, 3, k, 0)
	}
	for k, l := range m.Elems {
		put(len(m.Tables) == 0, api.ErrMissing, 9, k, 0)
		put(!isConst(l.Offset), api.ErrConst, 9, k, 1)
		for _, f := range l.Funcs {
			put(int64(f) >= int64(functions), api.ErrMissing, 9, k, 2)
		}
	}
	if t, is := module.TypeOf(m, m.Start); m.Started {
		put(int64(m.Start) >= int64(functions), api.ErrMissing, 8, 0, 0)
		put(is && (t.Params > 0 || t.Results > 0), api.ErrShape, 8, 0, 1)
	}
	for k, x := range m.Exports {
		many := []int{functions, len(m.Tables), len(m.Memories), len(m.Globals)}[x.Kind]
		put(int64(x.Index) >= int64(many), api.ErrMissing, 7, k, 0)
		for _, earlier := range m.Exports[:k] {
			put(earlier.Name == x.Name, api.ErrThere, 7, k, 1)
		}
	}
	for k, g := range m.Globals {
		put(!isConst(g.Init), api.ErrConst, 6, k, 0)
	}
	for k, i := range m.Imports {
		put(i.Type >= len(m.Types), api.ErrMissing, 2, k, 0)
	}
	if len(all) == 0 {
		return api.Wrong{}
	}
	return slices.MinFunc(all, func(a, b listed) int {
		return cmp.Or(a.Section-b.Section, a.Item-b.Item, a.rank-b.rank)
	}).Wrong
}

// isConst returns whether a list of valid instructions is one Const.
func isConst(l []api.Instr) bool { return len(l) == 1 && l[0].Op == api.OpConst }
