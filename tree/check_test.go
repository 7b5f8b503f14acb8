package tree

import (
	"math"
	"slices"
	"testing"

	"gimlet/api"
)

// one is a valid part of each kind, in a declaration; at says where in it.
type one struct {
	program api.Part
	at      []int
}

func ones() map[int]one {
	exp := func(e api.Part) one { return one{asExp(e), []int{1}} }
	pat := func(p api.Part) one { return one{asPattern(p), []int{0}} }
	typ := func(p api.Part) one { return one{asType(p), []int{0}} }
	a, b, c := v("a"), v("b"), v("c")
	return map[int]one{
		api.TypeVar: typ(tv("a")), api.TypeName: typ(tn("t", tv("a"))), api.TypePair: typ(part(api.TypePair, tv("a"), tn("t"))), api.TypeFun: typ(part(api.TypeFun, tn("t"), tv("a"))),
		api.PatAny: pat(dash()), api.PatVar: pat(pv("x")), api.PatInt: pat(numbered(api.PatInt, 5)), api.PatUnit: pat(part(api.PatUnit)), api.PatBool: pat(numbered(api.PatBool, 1)),
		api.PatPair: pat(pair(dash(), pv("x"))), api.PatCon: pat(named(api.PatCon, "A", pv("x"))),
		api.ExpInt: exp(numbered(api.ExpInt, 5)), api.ExpText: exp(named(api.ExpText, "é")), api.ExpUnit: exp(unit()), api.ExpBool: exp(numbered(api.ExpBool, 1)), api.ExpVar: exp(a),
		api.ExpCon: exp(named(api.ExpCon, "A", a)), api.ExpPair: exp(part(api.ExpPair, a, b)), api.ExpFun: exp(fun(pv("x"), a)), api.ExpCall: exp(call(a, b)), api.ExpLet: exp(let(pv("x"), a, b)),
		api.ExpRec: exp(rec(bind("f", dash(), a), b)), api.ExpIf: exp(part(api.ExpIf, a, b, c)), api.ExpMatch: exp(part(api.ExpMatch, a, kase(dash(), b))), api.ExpTry: exp(part(api.ExpTry, a, kase(dash(), b))),
		api.ExpRaise: exp(part(api.ExpRaise, a)), api.ExpSeq: exp(part(api.ExpSeq, a, b)), api.ExpGet: exp(part(api.ExpGet, a)), api.ExpSet: exp(part(api.ExpSet, a, b)), api.ExpOp: exp(op("+", a, b)), api.ExpNeg: exp(part(api.ExpNeg, a)),
		api.PartCase: {asCase(kase(dash(), a)), []int{1, 1}}, api.PartBind: {asBind(bind("f", dash(), a)), []int{0}}, api.PartCtor: {asCtor(ctor("A", tn("t"))), []int{0}},
		api.DeclType: {declType("t", 1, tv("a"), ctor("A")), nil}, api.DeclExn: {named(api.DeclExn, "E", tn("t")), nil}, api.DeclLet: {declLet(dash(), a), nil}, api.DeclRec: {part(api.DeclRec, bind("f", dash(), a)), nil},
	}
}

// with is a copy of the program in which its part has been changed.
func (o one) with(change func(*api.Part)) api.Part {
	program := copied(o.program)
	p := &program
	for _, i := range o.at {
		p = &p.L[i]
	}
	change(p)
	return program
}

// part is the part of that kind.
func (o one) part() api.Part {
	var out api.Part
	o.with(func(p *api.Part) { out = *p })
	return out
}

// Which texts, numbers and counts of parts each kind may have, with the ones that it has besides.
func TestRows(t *testing.T) {
	texts := []string{"", "x", "X", "let", "_", "_x", "+", "mod", "'a", "1", "x y", "é", long("x", 64), long("x", 65), long("X", 64), long("X", 65), long("x", 4096), long("x", 4097)}
	numbers := []int{0, 1, 2, 3, -1, 64, 65, api.MaxInt, api.MaxInt + 1, api.MinInt, api.MinInt - 1, math.MaxInt, math.MinInt}
	if len(ones()) != 38 {
		t.Error(len(ones()))
	}
	for kind, o := range ones() {
		accepts(t, o.program)
		for _, s := range texts {
			asRead(t, o.with(func(p *api.Part) { p.S = s }))
		}
		for _, n := range numbers {
			asRead(t, o.with(func(p *api.Part) { p.N = n }))
		}
		for _, at := range []int{0, 1, 65535, 65536} {
			accepts(t, o.with(func(p *api.Part) { p.At = at }))
		}
		for _, at := range []int{-1, 65537, math.MaxInt, math.MinInt} {
			refuses(t, o.with(func(p *api.Part) { p.At = at }))
		}
		for other := range 60 {
			asRead(t, o.with(func(p *api.Part) { p.Kind = other }))
		}
		for _, other := range []int{0, -1, -kind, 5, 9, 17, 19, 40, 44, 48, 49, 54, kind + 1<<32, kind - 1<<16, math.MaxInt, math.MinInt} {
			refuses(t, o.with(func(p *api.Part) { p.Kind = other }))
		}
	}
}

func TestNumbers(t *testing.T) {
	for _, n := range []int{0, 1, -1, api.MaxInt, api.MinInt} {
		accepts(t, asExp(numbered(api.ExpInt, n)), asPattern(numbered(api.PatInt, n)))
	}
	for _, n := range []int{api.MaxInt + 1, api.MinInt - 1, 1 << 32, math.MaxInt, math.MinInt} {
		refuses(t, asExp(numbered(api.ExpInt, n)))
		refuses(t, asPattern(numbered(api.PatInt, n)))
	}
	for _, n := range []int{0, 1} {
		accepts(t, asExp(numbered(api.ExpBool, n)), asPattern(numbered(api.PatBool, n)))
	}
	for _, n := range []int{2, -1, math.MaxInt, math.MinInt} {
		refuses(t, asExp(numbered(api.ExpBool, n)))
		refuses(t, asPattern(numbered(api.PatBool, n)))
	}
}

func TestTexts(t *testing.T) {
	names := map[string]int{"x": 1, "_x": 1, "__": 1, "x'": 1, "lets": 1, long("y", 64): 1, "": 0, "_": 0, "let": 0, "mod": 0, "X": 0, "'x": 0, "x ": 0, "1x": 0, "é": 0, "x\xff": 0, long("y", 65): 0, "+": 0}
	cons := map[string]int{"X": 1, "X_'9z": 1, "LET": 1, "Y" + long("y", 63): 1, "": 0, "x": 0, "_X": 0, "X ": 0, "É": 0, "Y" + long("y", 64): 0}
	vars := map[string]int{"x": 1, "let": 1, "a_B9'": 1, long("y", 64): 1, "": 0, "_": 0, "_x": 0, "X": 0, "'x": 0, "é": 0, long("y", 65): 0}
	ops := map[string]int{"+": 1, "-": 1, "*": 1, "/": 1, "mod": 1, "=": 1, "<": 1, "<=": 1, "": 0, ":=": 0, ",": 0, ";": 0, "->": 0, ">": 0, "!": 0, "|": 0, "let": 0, "+ ": 0, "++": 0, "Mod": 0}
	texts := map[string]int{"": 1, "a": 1, "é\x00\xff\"\\": 1, long("a", 4096): 1, long("\xff", 4096): 1, long("a", 4097): 0, long("é", 2049): 0, long("a", 100000): 0}
	for _, c := range []struct {
		texts map[string]int
		with  func(s string) api.Part
	}{
		{names, func(s string) api.Part { return asType(tn(s)) }},
		{names, func(s string) api.Part { return asPattern(pv(s)) }},
		{names, func(s string) api.Part { return asExp(v(s)) }},
		{names, func(s string) api.Part { return asBind(bind(s, dash(), unit())) }},
		{names, func(s string) api.Part { return declType(s, 0, ctor("A")) }},
		{cons, func(s string) api.Part { return asPattern(named(api.PatCon, s)) }},
		{cons, func(s string) api.Part { return asExp(named(api.ExpCon, s)) }},
		{cons, func(s string) api.Part { return asCtor(ctor(s)) }},
		{cons, func(s string) api.Part { return named(api.DeclExn, s) }},
		{vars, func(s string) api.Part { return asType(tv(s)) }},
		{vars, func(s string) api.Part { return declType("t", 1, tv(s), ctor("A")) }},
		{ops, func(s string) api.Part { return asExp(op(s, unit(), unit())) }},
		{texts, func(s string) api.Part { return asExp(named(api.ExpText, s)) }},
	} {
		for s, is := range c.texts {
			want := api.ErrArg
			if is == 1 {
				want = api.OK
			}
			checks(t, want, c.with(s))
		}
	}
}

// Of what belongs to one kind, too much, too little, or what belongs elsewhere: each a part at each place.
func TestParts(t *testing.T) {
	l := []api.Part{tv("a"), tn("t"), dash(), pv("x"), unit(), fun(dash(), v("y")), kase(dash(), v("z")), bind("f", dash(), v("y")), ctor("A"), declLet(dash(), v("y")), {}}
	count := 0
	for kind, o := range ones() {
		for _, s := range slices.Compact([]string{"", o.part().S}) {
			for _, own := range lists(l, 3) {
				if asRead(t, named(kind, s, own...)) {
					count++
				}
			}
		}
	}
	for _, s := range []string{"", "t"} {
		for n := -1; n <= 4; n++ {
			for _, own := range lists([]api.Part{tv("a"), tn("t"), ctor("A"), ctor("B", tv("b")), dash()}, 4) {
				if asRead(t, declType(s, n, own...)) {
					count++
				}
			}
		}
	}
	if count < 50 {
		t.Error(count)
	}
}

// lists are all lists of up to n of some parts.
func lists(l []api.Part, n int) [][]api.Part {
	out := [][]api.Part{nil}
	for begin := 0; n > 0; n-- {
		end := len(out)
		for _, own := range out[begin:end] {
			for _, p := range l {
				out = append(out, append(own[:len(own):len(own)], p))
			}
		}
		begin = end
	}
	return out
}

func TestCheckLists(t *testing.T) {
	good, bad, deep := declLet(dash(), v("x")), v("x"), asExp(nested(v("x"), 199))
	accepts(t)
	accepts(t, []api.Part{}...)
	accepts(t, good, good, good)
	accepts(t, times(20000, good)...)
	refuses(t, bad)
	refuses(t, good, bad)
	refuses(t, bad, good)
	refuses(t, append(times(20000, good), bad)...)
	checks(t, api.ErrDeep, deep)
	checks(t, api.ErrDeep, good, deep)
	checks(t, api.ErrDeep, deep, good)
	refuses(t, deep, bad)
	refuses(t, bad, deep)
	refuses(t, asExp(nested(v("let"), 500)))
	refuses(t, asExp(nested(part(api.ExpPair, v("x"), v("")), 500)))
	refuses(t, deep, asExp(numbered(api.ExpInt, 1<<30)))
}

// What stands in another one's place is no declaration, nor is what belongs to a declaration.
func TestNoDeclarations(t *testing.T) {
	for kind, o := range ones() {
		if kind >= api.DeclType {
			accepts(t, o.part())
		} else {
			refuses(t, o.part())
		}
	}
}
