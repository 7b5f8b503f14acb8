package tree

import (
	"math"
	"slices"
	"testing"

	"gimlet/api"
)

func (d *dice) name() string { return of(d, "a", "b", "c", "f", "g", "x'") }

func (d *dice) typ(deep int) api.Part {
	if deep == 0 {
		return of(d, tv("a"), tv("let"), tn("int"))
	}
	switch d.below(4) {
	case 0:
		return tn(d.name(), d.some(d.below(4), deep-1, d.typ)...)
	case 1:
		return part(api.TypePair, d.typ(deep-1), d.typ(deep-1))
	case 2:
		return part(api.TypeFun, d.typ(deep-1), d.typ(deep-1))
	}
	return d.typ(0)
}

// some are n parts, each of them made by make.
func (d *dice) some(n, deep int, make func(int) api.Part) []api.Part {
	var l []api.Part
	for range n {
		l = append(l, make(deep))
	}
	return l
}

func (d *dice) pattern(deep int) api.Part {
	if deep == 0 || d.below(2) == 0 {
		return of(d, dash(), pv(d.name()), pv(d.name()), pv(d.name()), numbered(api.PatInt, d.below(9)-4), part(api.PatUnit), numbered(api.PatBool, d.below(2)), named(api.PatCon, "A"))
	}
	return of(d, pair(d.pattern(deep-1), d.pattern(deep-1)), named(api.PatCon, "B", d.pattern(deep-1)))
}

func (d *dice) exp(deep int) api.Part {
	if deep == 0 || d.below(6) == 0 {
		return of(d, v(d.name()), v(d.name()), v(d.name()), numbered(api.ExpInt, d.below(9)-4), named(api.ExpText, "a\xff"), unit(), numbered(api.ExpBool, d.below(2)), named(api.ExpCon, "A"))
	}
	e := func() api.Part { return d.exp(deep - 1) }
	switch d.below(12) {
	case 0:
		return d.fun(deep)
	case 1:
		return let(d.pattern(2), e(), e())
	case 2:
		return rec(append(d.some(1+d.below(3), deep-1, d.bind), e())...)
	case 3:
		return part(of(d, api.ExpMatch, api.ExpTry), slices.Insert(d.some(1+d.below(3), deep-1, d.kase), 0, e())...)
	case 4:
		return part(api.ExpIf, e(), e(), e())
	case 5:
		return op(of(d, operators...), e(), e())
	case 6:
		return named(api.ExpCon, "B", e())
	case 7:
		return part(of(d, api.ExpRaise, api.ExpGet, api.ExpNeg), e())
	}
	return part(of(d, api.ExpPair, api.ExpCall, api.ExpSeq, api.ExpSet), e(), e())
}

func (d *dice) fun(deep int) api.Part { return fun(d.pattern(2), d.exp(max(deep-1, 0))) }

func (d *dice) bind(deep int) api.Part { return named(api.PartBind, d.name(), d.fun(deep)) }

func (d *dice) kase(deep int) api.Part { return kase(d.pattern(2), d.exp(deep)) }

func (d *dice) ctor(deep int) api.Part { return ctor("A", d.some(d.below(2), deep, d.typ)...) }

func (d *dice) decl(deep int) api.Part {
	switch d.below(6) {
	case 0:
		n := d.below(4)
		return declType(d.name(), n, append(times(n, tv("a")), d.some(1+d.below(3), 2, d.ctor)...)...)
	case 1:
		return named(api.DeclExn, "E", d.some(d.below(2), 3, d.typ)...)
	case 2:
		return part(api.DeclRec, d.some(1+d.below(3), deep, d.bind)...)
	}
	return declLet(d.pattern(3), d.exp(deep))
}

// spoil changes a part in one of many ways, some of which leave it valid.
func (d *dice) spoil(p *api.Part) {
	switch d.below(8) {
	case 0:
		p.Kind = d.below(60)
	case 1:
		p.N = of(d, 0, 1, 2, -1, 64, 65, api.MaxInt, api.MaxInt+1, api.MinInt, api.MinInt-1, math.MaxInt, math.MinInt)
	case 2:
		p.S = of(d, "", "x", "A", "let", "_", "+", "mod", "'a", long("x", 65), long("x", 4097), "é")
	case 3:
		p.At = of(d, -1, 0, 65536, 65537, math.MaxInt)
	case 4:
		p.L = append(p.L, of(d, unit(), dash(), tv("a"), ctor("A"), kase(dash(), v("b")), bind("f", dash(), v("b"))))
	case 5:
		p.L = p.L[:len(p.L)*d.below(2)]
	case 6:
		slices.Reverse(p.L)
	case 7:
		*p = of(d, d.exp(1), d.pattern(1), d.typ(1), d.kase(1), d.bind(1), d.ctor(1), d.decl(1))
	}
}

// Made declarations, and such with a few things otherwise, and all parts of them.
func TestSeries(t *testing.T) {
	d := dice(16)
	good, bad := 0, 0
	for range 6000 {
		p := d.decl(d.below(5))
		if !asRead(t, p) {
			t.Fatal(text(p))
		}
		q := placed(&d, p)
		for range d.below(4) {
			q = changed(q, d.below(Size(q)), d.spoil)
		}
		if asRead(t, q) {
			good++
		} else {
			bad++
		}
		if Same(p, q) != (text(p) == text(q)) {
			t.Fatal(text(p), text(q))
		}
		for _, own := range within(q) {
			if Size(own) < 10 {
				asRead(t, own)
			}
		}
	}
	if good < 1500 || bad < 1500 {
		t.Error(good, bad)
	}
}

// P16.4: for any parts, valid or not.
func TestPlaces(t *testing.T) {
	d := dice(164)
	for range 5000 {
		p := d.decl(d.below(5))
		for range d.below(3) {
			p = changed(p, d.below(Size(p)), d.spoil)
		}
		p = placed(&d, p)
		q, plain := placed(&d, p), Plain(p)
		if !Same(p, plain) || !Same(p, q) || !Same(plain, q) || text(plain) != text(p) {
			t.Fatal(text(p))
		}
		for _, other := range []api.Part{q, plain} {
			if !slices.Equal(Names(p), Names(other)) || !slices.Equal(Free(p), Free(other)) || Check([]api.Part{p}) != Check([]api.Part{other}) {
				t.Fatal(text(p))
			}
		}
		for _, own := range within(plain) {
			if own.At != 0 || len(own.L) == 0 && own.L != nil {
				t.Fatal(text(p))
			}
		}
	}
}

// Programs of several declarations: the first error of all.
func TestPrograms(t *testing.T) {
	d := dice(1616)
	found := map[api.Errno]int{}
	for range 3000 {
		l := d.some(d.below(5), 3, d.decl)
		for range d.below(3) {
			l = append(l, of(&d, asExp(nested(d.exp(2), 195+d.below(6))), d.decl(2)))
		}
		if len(l) > 0 && d.below(3) == 0 {
			i := d.below(len(l))
			l[i] = changed(l[i], d.below(Size(l[i])), d.spoil)
		}
		got := Check(l)
		if got != readCheck(l) {
			t.Fatal(got, text(part(0, l...)))
		}
		found[got]++
	}
	for _, err := range []api.Errno{api.OK, api.ErrArg, api.ErrDeep} {
		if found[err] < 100 {
			t.Error(err, found[err])
		}
	}
}
