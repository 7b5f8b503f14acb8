package parse

import (
	"slices"
	"strconv"
	"strings"
	"testing"

	"gimlet/api"
)

// Made programs, written with brackets around each part, are parsed as they were, and where they were written.

func part(kind int, l ...api.Part) api.Part { return api.Part{Kind: kind, L: l} }

func (d *dice) name() string { return of(d, "a", "b", "x'", "_y") }

func (d *dice) con() string { return of(d, "A", "B", "Cons") }

func (d *dice) number() int {
	return of(d, d.below(9), -d.below(9), api.MaxInt, api.MinInt, api.MinInt+1, -1)
}

// some are n parts, each of them made by make.
func (d *dice) some(n, deep int, make func(int) api.Part) []api.Part {
	var l []api.Part
	for range n {
		l = append(l, make(deep))
	}
	return l
}

func (d *dice) typ(deep int) api.Part {
	switch d.below(1 + 4*min(deep, 1)) {
	case 1:
		return part(api.TypePair, d.some(2, deep-1, d.typ)...)
	case 2:
		return part(api.TypeFun, d.some(2, deep-1, d.typ)...)
	case 3, 4:
		return api.Part{Kind: api.TypeName, S: d.name(), L: d.some(d.below(4), deep-1, d.typ)}
	}
	return api.Part{Kind: of(d, api.TypeVar, api.TypeName), S: of(d, "a", "b'")}
}

func (d *dice) pattern(deep int) api.Part {
	switch d.below(6 + 3*min(deep, 1)) {
	case 0:
		return part(api.PatAny)
	case 1:
		return api.Part{Kind: api.PatInt, N: d.number()}
	case 2:
		return part(api.PatUnit)
	case 3:
		return api.Part{Kind: api.PatBool, N: d.below(2)}
	case 4:
		return api.Part{Kind: api.PatCon, S: d.con()}
	case 5:
		return api.Part{Kind: api.PatVar, S: d.name()}
	case 6:
		return api.Part{Kind: api.PatCon, S: d.con(), L: d.some(1, deep-1, d.pattern)}
	}
	return part(api.PatPair, d.some(2, deep-1, d.pattern)...)
}

func (d *dice) exp(deep int) api.Part {
	switch d.below(6 + 14*min(deep, 1)) {
	case 0:
		return api.Part{Kind: api.ExpInt, N: d.number()}
	case 1:
		return api.Part{Kind: api.ExpText, S: of(d, "", "a", ";;", "in")}
	case 2:
		return part(api.ExpUnit)
	case 3:
		return api.Part{Kind: api.ExpBool, N: d.below(2)}
	case 4:
		return api.Part{Kind: api.ExpVar, S: d.name()}
	case 5:
		return api.Part{Kind: api.ExpCon, S: d.con()}
	case 6:
		return api.Part{Kind: api.ExpCon, S: d.con(), L: d.some(1, deep-1, d.exp)}
	case 7:
		return d.fun(deep - 1)
	case 8:
		return part(api.ExpLet, d.pattern(2), d.exp(deep-1), d.exp(deep-1))
	case 9:
		return part(api.ExpRec, append(d.some(1+d.below(3), deep-1, d.bind), d.exp(deep-1))...)
	case 10, 11:
		return part(of(d, api.ExpMatch, api.ExpTry), slices.Insert(d.some(1+d.below(3), deep-1, d.kase), 0, d.exp(deep-1))...)
	case 12:
		return part(api.ExpIf, d.some(3, deep-1, d.exp)...)
	case 13:
		return part(of(d, api.ExpRaise, api.ExpGet, api.ExpNeg), d.exp(deep-1))
	case 14, 15:
		return api.Part{Kind: api.ExpOp, S: of(d, "+", "-", "*", "/", "mod", "=", "<", "<="), L: d.some(2, deep-1, d.exp)}
	}
	return part(of(d, api.ExpPair, api.ExpCall, api.ExpSeq, api.ExpSet), d.some(2, deep-1, d.exp)...)
}

func (d *dice) fun(deep int) api.Part { return part(api.ExpFun, d.pattern(2), d.exp(deep)) }

func (d *dice) bind(deep int) api.Part {
	return api.Part{Kind: api.PartBind, S: d.name(), L: []api.Part{d.fun(deep)}}
}

func (d *dice) kase(deep int) api.Part { return part(api.PartCase, d.pattern(2), d.exp(deep)) }

func (d *dice) ctor(deep int) api.Part {
	return api.Part{Kind: api.PartCtor, S: d.con(), L: d.some(d.below(2), deep, d.typ)}
}

func (d *dice) param(int) api.Part { return api.Part{Kind: api.TypeVar, S: of(d, "a", "b", "c")} }

func (d *dice) decl(deep int) api.Part {
	switch d.below(5) {
	case 0:
		n := d.below(4)
		return api.Part{Kind: api.DeclType, S: d.name(), N: n, L: append(d.some(n, 0, d.param), d.some(1+d.below(3), 2, d.ctor)...)}
	case 1:
		return api.Part{Kind: api.DeclExn, S: d.con(), L: d.some(d.below(2), 3, d.typ)}
	case 2:
		return part(api.DeclRec, d.some(1+d.below(3), deep, d.bind)...)
	}
	return part(api.DeclLet, d.pattern(3), d.exp(deep))
}

// writer writes parts, and tells them with the places where it has written them.
type writer struct {
	dice
	strings.Builder
}

func (w *writer) word(s string) int {
	at := w.Len()
	w.WriteString(s + of(&w.dice, " ", " ", "\n", " (* in *) "))
	return at
}

// enclosed writes a part in brackets, which need not be there if it is one word.
func (w *writer) enclosed(p api.Part, write func(api.Part) api.Part, oneWord bool) api.Part {
	n := w.below(3)
	if n == 0 && !oneWord {
		n = 1
	}
	for range n {
		w.word("(")
	}
	p = write(p)
	for range n {
		w.word(")")
	}
	return p
}

// all writes parts with a word between each two.
func (w *writer) all(l []api.Part, write func(api.Part) api.Part, between string) []api.Part {
	var out []api.Part
	for i, p := range l {
		if i > 0 && between != "" {
			w.word(between)
		}
		out = append(out, write(p))
	}
	return out
}

func (w *writer) inType(p api.Part) api.Part { return w.enclosed(p, w.typ, len(p.L) == 0) }

func (w *writer) typ(p api.Part) api.Part {
	between := map[int]string{api.TypePair: "*", api.TypeFun: "->", api.TypeName: ","}[p.Kind]
	switch {
	case p.Kind == api.TypeVar:
		p.At = w.word("'" + p.S)
	case p.Kind == api.TypeName && len(p.L) == 0:
		p.At = w.word(p.S)
	case p.Kind == api.TypeName && len(p.L) > 1:
		p.At = w.word("(")
		p.L = w.all(p.L, w.inType, between)
		w.word(")")
		w.word(p.S)
	default:
		p.L = w.all(p.L, w.inType, between)
		p.At = p.L[0].At
		if p.Kind == api.TypeName {
			w.word(p.S)
		}
	}
	return p
}

func (w *writer) inPattern(p api.Part) api.Part { return w.enclosed(p, w.pattern, len(p.L) == 0) }

func (w *writer) pattern(p api.Part) api.Part {
	switch p.Kind {
	case api.PatAny:
		p.At = w.word("_")
	case api.PatVar:
		p.At = w.word(p.S)
	case api.PatCon:
		p.At = w.word(p.S)
		p.L = w.all(p.L, w.inPattern, "")
	case api.PatInt:
		p.At = w.negative(p.N)
	case api.PatUnit:
		p.At = w.word("(")
		w.word(")")
	case api.PatBool:
		p.At = w.word(strconv.FormatBool(p.N == 1))
	case api.PatPair:
		p.L = w.all(p.L, w.inPattern, ",")
		p.At = p.L[0].At
	}
	return p
}

// negative writes a number of a pattern, which has two texts.
func (w *writer) negative(n int) int {
	if w.below(2) == 0 {
		return w.word(digits(n))
	}
	at := w.word("-")
	w.word(digits(-n))
	return at
}

// digits are those of a number of which 2^31 is 0.
func digits(n int) string { return strconv.Itoa(n & (1<<31 - 1)) }

func (w *writer) in(p api.Part) api.Part { return w.enclosed(p, w.exp, len(p.L) == 0) }

// called writes the first part of an ExpCall: a Con by itself would take what it is called with.
func (w *writer) called(p api.Part) api.Part {
	return w.enclosed(p, w.exp, len(p.L) == 0 && p.Kind != api.ExpCon)
}

func (w *writer) exp(p api.Part) api.Part {
	marks := map[int]string{api.ExpPair: ",", api.ExpSeq: ";", api.ExpSet: ":=", api.ExpOp: p.S}
	if between, ok := marks[p.Kind]; ok {
		p.L = w.all(p.L, w.in, between)
		p.At = p.L[0].At
		return p
	}
	if p.Kind == api.ExpCall {
		first := w.called(p.L[0])
		p.L = []api.Part{first, w.in(p.L[1])}
		p.At = first.At
		return p
	}
	p.At = w.word(map[int]string{
		api.ExpInt: digits(p.N), api.ExpText: strconv.Quote(p.S), api.ExpUnit: "(", api.ExpBool: strconv.FormatBool(p.N == 1), api.ExpVar: p.S, api.ExpCon: p.S, api.ExpFun: "fun", api.ExpLet: "let", api.ExpRec: "let rec",
		api.ExpIf: "if", api.ExpMatch: "match", api.ExpTry: "try", api.ExpRaise: "raise", api.ExpGet: "!", api.ExpNeg: "-",
	}[p.Kind])
	switch p.Kind {
	case api.ExpUnit:
		w.word(")")
	case api.ExpCon, api.ExpRaise, api.ExpGet, api.ExpNeg:
		p.L = w.all(p.L, w.in, "")
	case api.ExpFun:
		p.L = w.halves(p.L, w.inPattern, "->", w.in)
	case api.ExpLet:
		l := w.halves(p.L[:2], w.inPattern, "=", w.in)
		w.word("in")
		p.L = append(l, w.in(p.L[2]))
	case api.ExpRec:
		last := len(p.L) - 1
		l := w.all(p.L[:last], w.bind, "and")
		w.word("in")
		p.L = append(l, w.in(p.L[last]))
	case api.ExpIf:
		a := w.halves(p.L[:2], w.in, "then", w.in)
		w.word("else")
		p.L = append(a, w.in(p.L[2]))
	case api.ExpMatch, api.ExpTry:
		value := w.in(p.L[0])
		w.word(of(&w.dice, "with", "with |"))
		p.L = slices.Insert(w.all(p.L[1:], w.kase, "|"), 0, value)
	}
	return p
}

func (w *writer) halves(l []api.Part, a func(api.Part) api.Part, between string, b func(api.Part) api.Part) []api.Part {
	first := a(l[0])
	w.word(between)
	return []api.Part{first, b(l[1])}
}

func (w *writer) kase(p api.Part) api.Part {
	p.L = w.halves(p.L, w.inPattern, "->", w.in)
	p.At = p.L[0].At
	return p
}

func (w *writer) bind(p api.Part) api.Part {
	p.At = w.word(p.S)
	w.word("=")
	p.L = []api.Part{w.exp(p.L[0])}
	return p
}

func (w *writer) ctor(p api.Part) api.Part {
	p.At = w.word(p.S)
	if len(p.L) > 0 {
		w.word("of")
		p.L = []api.Part{w.inType(p.L[0])}
	}
	return p
}

func (w *writer) decl(p api.Part) api.Part {
	at := w.word(map[int]string{api.DeclType: "type", api.DeclExn: "exception", api.DeclLet: "let", api.DeclRec: "let rec"}[p.Kind])
	switch p.Kind {
	case api.DeclType:
		var params []api.Part
		if p.N == 1 && w.below(2) == 0 {
			params = w.all(p.L[:1], w.typ, "")
		} else if p.N > 0 {
			w.word("(")
			params = w.all(p.L[:p.N], w.typ, ",")
			w.word(")")
		}
		w.word(p.S)
		w.word("=")
		p.L = append(params, w.all(p.L[p.N:], w.ctor, "|")...)
	case api.DeclExn:
		p = w.ctor(p)
	case api.DeclLet:
		p.L = w.halves(p.L, w.inPattern, "=", w.in)
	case api.DeclRec:
		p.L = w.all(p.L, w.bind, "and")
	}
	p.At = at
	w.word(";;")
	return p
}

func TestTrees(t *testing.T) {
	t.Parallel()
	d := dice(1717)
	for range 4000 {
		w := &writer{dice: d}
		d.below(2)
		l := w.all(d.some(d.below(4), d.below(5), d.decl), w.decl, "")
		got, fault := Parse(w.String())
		if fault != (api.Fault{}) || !same(got, l) {
			t.Fatalf("Parse(%q) = %s, %v, want %s", w.String(), showAll(got, 0), fault, showAll(l, 0))
		}
		asRead(t, w.String())
	}
}
