package tree

import (
	"slices"
	"testing"

	"gimlet/api"
)

func TestTypesOfName(t *testing.T) {
	accepts(t, asType(tn("t")))
	accepts(t, asType(tn("t", times(64, tv("a"))...)))
	refuses(t, asType(tn("t", times(65, tv("a"))...)))
	refuses(t, asType(tn("t", append(times(63, tv("a")), dash())...)))
	accepts(t, asType(tn("t", times(64, tn("u", times(64, tn("w"))...))...)))
	refuses(t, asType(tn("t", append(times(63, tn("u")), tn("u", times(65, tn("w"))...))...)))
}

func TestParams(t *testing.T) {
	for _, n := range []int{0, 1, 63, 64} {
		params := times(n, tv("a"))
		accepts(t, declType("t", n, append(params, ctor("A"))...))
		accepts(t, declType("t", n, append(params, times(300, ctor("A"))...)...))
		refuses(t, declType("t", n, params...))
		refuses(t, declType("t", n, ctor("A")), declType("t", n+1, append(params, ctor("A"))...))
		refuses(t, declType("t", n+1, append(params, ctor("A"), ctor("B"))...))
		refuses(t, declType("t", n+1, append(params, tn("a"), ctor("B"))...))
		refuses(t, declType("t", n-1, append(times(n, tv("a")), ctor("A"))...))
	}
	refuses(t, declType("t", 65, append(times(65, tv("a")), ctor("A"))...))
	refuses(t, declType("t", 1, ctor("A"), tv("a")))
	refuses(t, declType("t", -1, ctor("A")))
	refuses(t, declType("t", -1))
}

func TestManyParts(t *testing.T) {
	cases, binds := times(20000, kase(dash(), unit())), times(20000, bind("f", dash(), unit()))
	accepts(t, asExp(part(api.ExpMatch, slices.Insert(cases, 0, unit())...)))
	accepts(t, asExp(part(api.ExpTry, slices.Insert(cases, 0, unit())...)))
	accepts(t, asExp(rec(append(binds, unit())...)), part(api.DeclRec, binds...))
	accepts(t, declType("t", 0, times(20000, ctor("A"))...))
	refuses(t, asExp(part(api.ExpMatch, append(slices.Insert(cases, 0, unit()), unit())...)))
	refuses(t, asExp(part(api.ExpMatch, cases...)))
	refuses(t, asExp(rec(binds...)))
	refuses(t, asExp(rec(append(append(binds, unit()), unit())...)))
	refuses(t, part(api.DeclRec, append(binds, kase(dash(), unit()))...))
}

// deepened are declarations of which one grows with n, by each way in which a part can stand in another one.
func deepened(n int) []api.Part {
	t, p, e := tv("a"), dash(), unit()
	l := []api.Part{t, t, t, t, p, p, p, e, e, e, e, e, e, e, e, e}
	for range n {
		l = []api.Part{
			tn("t", l[0]), part(api.TypePair, l[1], t), part(api.TypePair, t, l[2]), part(api.TypeFun, t, l[3]),
			pair(l[4], p), pair(p, l[5]), named(api.PatCon, "A", l[6]),
			call(l[7], e), call(e, l[8]), fun(p, l[9]), let(p, l[10], e), let(p, e, l[11]), part(api.ExpIf, e, e, l[12]), op("mod", l[13], e), part(api.ExpRaise, l[14]), named(api.ExpCon, "A", l[15]),
		}
	}
	for i, one := range l {
		switch {
		case i < 4:
			l[i] = asType(one)
		case i < 7:
			l[i] = asPattern(one)
		default:
			l[i] = asExp(one)
		}
	}
	return l
}

func TestDeep(t *testing.T) {
	for _, one := range deepened(198) {
		accepts(t, one)
		if d := Depth(one); d != 200 {
			t.Error(d)
		}
	}
	for _, one := range deepened(199) {
		checks(t, api.ErrDeep, one)
		if d := Depth(one); d != 201 {
			t.Error(d)
		}
	}
	cases := func(n int) api.Part {
		e := unit()
		for range n {
			e = part(api.ExpTry, unit(), kase(dash(), unit()), kase(dash(), e), kase(dash(), unit()))
		}
		return e
	}
	accepts(t, asExp(cases(99)))
	checks(t, api.ErrDeep, asExp(cases(100)))
	checks(t, api.ErrDeep, declLet(dash(), cases(99)), asExp(nested(cases(99), 1)))
	accepts(t, asBind(bind("f", dash(), nested(unit(), 196))))
	checks(t, api.ErrDeep, asBind(bind("f", dash(), nested(unit(), 197))))
	accepts(t, declType("t", 0, ctor("A"), ctor("B", tn("t", deepened(196)[0].L[0]))))
	checks(t, api.ErrDeep, declType("t", 0, ctor("B", deepened(198)[0].L[0]), ctor("A")))
}

// As many parts in one another as the document's bound allows.
func TestDeepest(t *testing.T) {
	e := v("x")
	for i := range 1<<16 - 2 {
		if i%3 == 0 {
			e = fun(pv("y"), e)
			continue
		}
		e = part(api.ExpNeg, e)
	}
	p := asExp(e)
	p.At = 7
	checks(t, api.ErrDeep, p)
	frees(t, "x", p)
	if Depth(p) != 1<<16 || Size(p) != 1<<16+1+21845 || len(Names(p)) != 21845 || !Same(p, p) || !Same(Plain(p), p) {
		t.Error(Depth(p), Size(p), len(Names(p)))
	}
	refuses(t, asExp(part(api.ExpNeg, call(e, v("let")))))
}
