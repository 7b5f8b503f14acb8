package tree

import (
	"math"
	"slices"
	"testing"

	"gimlet/api"
)

func TestExamples(t *testing.T) {
	f := declLet(pv("f"), fun(pv("x"), op("+", v("x"), v("y"))))
	accepts(t, f)
	frees(t, "y", f)
	if Depth(f) != 4 {
		t.Error(Depth(f))
	}
	names(t, pair(pv("x"), pair(pv("y"), pv("x"))), "x", "y", "x")
	refuses(t, unit())
	accepts(t)
	frees(t, "z", rec(bind("f", pv("x"), call(v("g"), v("x"))), bind("g", pv("y"), call(v("f"), v("z"))), v("g")))
	a, b := v("x"), v("x")
	a.At, b.At = 3, 9
	if !Same(a, b) || Plain(a).At != 0 || text(Plain(a)) != text(a) {
		t.Error("Same, Plain")
	}
}

func names(t *testing.T, p api.Part, want ...string) {
	t.Helper()
	if got := Names(p); !slices.Equal(got, want) {
		t.Errorf("Names of %s: %q, want %q", text(p), got, want)
	}
}

func TestNames(t *testing.T) {
	for _, p := range []api.Part{{}, dash(), part(api.PatUnit), numbered(api.PatInt, 3), named(api.PatCon, "A"), v("x"), unit(), tn("t"), named(api.PatAny, "x"), named(api.PartBind, "f")} {
		names(t, p)
	}
	names(t, pv("x"), "x")
	names(t, pv(""), "")
	names(t, pv("let"), "let")
	names(t, named(api.PatCon, "A", pair(pv("b"), pair(named(api.PatCon, "B", pv("a")), pv("b")))), "b", "a", "b")
	names(t, pair(pair(pv("c"), pv("b")), pv("a")), "c", "b", "a")
	// Parts that are no patterns, or not valid, count for what is in them.
	names(t, fun(pv("y"), let(pv("x"), fun(pv("z"), v("w")), unit())), "y", "x", "z")
	names(t, declLet(pv("f"), unit()), "f")
	names(t, named(api.PatVar, "a", pv("b"), part(-7, pv("c"))), "a", "b", "c")
	names(t, part(1<<40, pv("b"), pv("\xff")), "b", "\xff")
	names(t, kase(pv("x"), part(api.ExpTry, unit(), kase(pv("x"), unit()))), "x", "x")
}

// What each part that binds names binds, and where.
func TestFree(t *testing.T) {
	frees(t, "x", v("x"))
	frees(t, "", unit())
	frees(t, "abc", op("+", op("*", v("c"), v("a")), op("-", v("b"), v("c"))))
	frees(t, "", fun(pv("x"), v("x")))
	frees(t, "y", fun(pv("x"), v("y")))
	frees(t, "x", call(fun(pv("x"), v("x")), v("x")))
	frees(t, "x", call(v("x"), fun(pv("x"), v("x"))))
	frees(t, "c", fun(pair(pv("a"), named(api.PatCon, "A", pv("b"))), call(call(v("a"), v("b")), v("c"))))
	frees(t, "x", let(pv("x"), v("x"), v("x")))
	frees(t, "xy", let(pv("x"), v("x"), v("y")))
	frees(t, "", let(pv("x"), unit(), v("x")))
	frees(t, "y", let(pair(pv("x"), pv("z")), v("y"), call(v("x"), v("z"))))
	frees(t, "xy", let(pv("x"), v("x"), let(pv("y"), v("y"), call(v("x"), v("y")))))
	frees(t, "x", kase(pv("y"), call(v("x"), v("y"))))
	frees(t, "xy", part(api.ExpMatch, v("x"), kase(pv("x"), v("x")), kase(pv("y"), v("x")), kase(dash(), v("y"))))
	frees(t, "xy", part(api.ExpTry, v("x"), kase(pv("x"), v("x")), kase(pv("y"), v("x")), kase(dash(), v("y"))))
	frees(t, "z", rec(bind("f", pv("x"), call(v("g"), v("x"))), bind("g", pv("y"), call(v("f"), v("z"))), call(v("f"), v("g"))))
	frees(t, "x", rec(bind("f", pv("x"), v("x")), v("x")))
	frees(t, "f", call(rec(bind("f", dash(), v("f")), v("f")), v("f")))
	frees(t, "", rec(bind("f", dash(), v("f")), bind("f", dash(), v("f")), v("f")))
	frees(t, "", rec(bind("f", dash(), unit()), fun(pv("f"), v("f"))))
	frees(t, "f", bind("f", dash(), v("f")))
	frees(t, "fg", bind("f", pv("x"), call(v("f"), call(v("g"), v("x")))))
	frees(t, "f", declLet(pv("f"), v("f")))
	frees(t, "", part(api.DeclRec, bind("f", dash(), v("g")), bind("g", dash(), v("f"))))
	frees(t, "h", part(api.DeclRec, bind("f", dash(), v("h")), bind("g", pv("x"), call(v("f"), v("x")))))
	frees(t, "", declType("t", 1, tv("x"), ctor("A", tn("x"))))
	frees(t, "", named(api.DeclExn, "E", tn("x")))
	frees(t, "x", part(api.ExpIf, v("x"), v("x"), v("x")))
	// A name that is bound twice is so until both have ended.
	frees(t, "", fun(pv("x"), call(fun(pv("x"), v("x")), v("x"))))
	frees(t, "x", call(fun(pair(pv("x"), pv("x")), v("x")), v("x")))
	frees(t, "x", call(fun(pv("x"), fun(pv("x"), v("x"))), v("x")))
}

func TestFreeOrder(t *testing.T) {
	l := []string{"b'", "a1", "a", "_b", "b", "zz", "aB", "ab", "a_", "a'", "z", "__", "a1"}
	e := unit()
	for _, s := range l {
		e = call(e, v(s))
	}
	want := []string{"__", "_b", "a", "a'", "a1", "aB", "a_", "ab", "b", "b'", "z", "zz"}
	if got := Free(e); !slices.Equal(got, want) {
		t.Errorf("%q", got)
	}
}

// What is not valid, or no expression, Case, Bind or declaration, has no names.
func TestFreeOfOthers(t *testing.T) {
	for _, p := range []api.Part{
		{}, pv("x"), tv("x"), tn("x"), dash(), ctor("A"), ctor("A", tn("x")), part(7, v("x")), part(api.ExpCall, v("x")), call(v("x"), v("")), call(v("x"), pv("x")), v("let"), v("X"), v(long("x", 65)),
		fun(v("y"), v("x")), part(api.ExpFun, pv("y")), part(api.ExpLet), part(api.ExpRec), part(api.ExpRec, v("x")), part(api.PartCase), named(api.PartBind, "f", v("x")), part(api.DeclRec), declLet(v("x"), v("x")),
		op("^", v("x"), v("x")), let(pv("y"), v("x"), kase(pv("x"), v("x"))), {Kind: api.ExpVar, S: "x", N: 1}, {Kind: api.ExpVar, S: "x", At: -1}, {Kind: api.ExpVar, S: "x", At: 65537},
		call(v("x"), api.Part{Kind: api.ExpUnit, At: 65537}), named(api.ExpVar, "x", unit()), part(api.PatPair, v("x"), v("x")), named(api.PatCon, "A", v("x")), tn("t", v("x")),
	} {
		frees(t, "", p)
	}
	// How deep a part is does not matter.
	frees(t, "x", nested(v("x"), 1000))
	frees(t, "", nested(v("let"), 1000))
	frees(t, "x", api.Part{Kind: api.ExpVar, S: "x", At: 65536})
}

func TestDepthAndSize(t *testing.T) {
	for _, c := range []struct {
		p           api.Part
		depth, size int
	}{
		{api.Part{}, 1, 1}, {v("x"), 1, 1}, {part(-3, api.Part{}), 2, 2}, {call(v("x"), v("x")), 2, 3}, {call(nested(v("x"), 3), v("x")), 5, 6}, {call(v("x"), nested(v("x"), 3)), 5, 6},
		{part(api.ExpIf, v("x"), nested(v("x"), 2), nested(v("x"), 1)), 4, 7}, {part(0, times(300, part(1<<40, unit()))...), 3, 601}, {pair(pair(pair(dash(), dash()), dash()), dash()), 4, 7},
	} {
		if d, n := Depth(c.p), Size(c.p); d != c.depth || n != c.size {
			t.Errorf("Depth and Size of %s: %d, %d", short(text(c.p)), d, n)
		}
	}
}

// Each field of each part within counts, but for At.
func TestSameFields(t *testing.T) {
	p := declLet(pair(pv("x"), numbered(api.PatInt, 3)), part(1<<33, unit(), named(-5, "\xff", numbered(7, 9)), fun(dash(), v("y"))))
	changes := []func(*api.Part){
		func(p *api.Part) { p.Kind++ }, func(p *api.Part) { p.Kind += 1 << 32 }, func(p *api.Part) { p.N-- }, func(p *api.Part) { p.N += 1 << 32 }, func(p *api.Part) { p.S += "a" }, func(p *api.Part) { p.S += "\x00" },
		func(p *api.Part) { p.L = append(p.L, api.Part{}) }, func(p *api.Part) { p.L = slices.Insert(p.L, 0, unit()) },
	}
	for place := range Size(p) {
		for _, change := range changes {
			other := changed(p, place, change)
			if Same(p, other) || Same(other, p) || !Same(other, copied(other)) || Same(Plain(other), Plain(p)) {
				t.Errorf("place %d: %s", place, text(other))
			}
		}
		for _, at := range []int{1, -1, 65537, math.MaxInt, math.MinInt} {
			other := changed(p, place, func(p *api.Part) { p.At = at })
			if !Same(p, other) || !Same(other, p) {
				t.Errorf("place %d: At", place)
			}
		}
	}
	if Same(call(v("x"), v("y")), call(v("y"), v("x"))) || Same(call(v("x"), v("y")), part(api.ExpCall, v("x"))) || Same(part(0, part(0), part(0)), part(0, part(0, part(0)))) {
		t.Error("order")
	}
	if !Same(api.Part{L: []api.Part{}}, api.Part{}) || !Same(api.Part{}, api.Part{}) {
		t.Error("empty lists")
	}
}

// changed is a copy of p whose part at a place, counted from the front on, has been changed.
func changed(p api.Part, place int, change func(*api.Part)) api.Part {
	p = copied(p)
	var visit func(p *api.Part)
	visit = func(p *api.Part) {
		if place == 0 {
			change(p)
		}
		place--
		for i := range p.L {
			if place >= 0 {
				visit(&p.L[i])
			}
		}
	}
	visit(&p)
	return p
}

// A list that is handed out is none of those that were handed in, nor another one that is handed out.
func TestApart(t *testing.T) {
	shared := []api.Part{{Kind: api.ExpVar, S: "x", At: 5}, {Kind: api.ExpVar, S: "y", At: 6}, {Kind: 99, S: "spare", At: 7}}
	p := api.Part{Kind: api.ExpPair, At: 1, L: []api.Part{{Kind: api.ExpCall, At: 2, L: shared[:2]}, {Kind: api.ExpCall, At: 3, L: shared[:2]}}}
	before := copied(p)
	q := Plain(p)
	if q.L[0].L[0].At != 0 || q.L[1].L[1].At != 0 || q.At != 0 || q.L[1].At != 0 || !Same(p, q) {
		t.Error(text(q))
	}
	for _, l := range [][]api.Part{q.L, q.L[0].L, q.L[1].L} {
		for _, spare := range l[len(l):cap(l)] {
			if spare.Kind != 0 || spare.S != "" {
				t.Error(spare)
			}
		}
	}
	q.L[0].L[0].S = "changed"
	q.L[0].L = append(q.L[0].L, unit())
	if q.L[1].L[0].S != "x" || text(p) != text(before) || shared[2].S != "spare" || shared[0].At != 5 {
		t.Error(text(q), text(p))
	}
	one, two := Names(fun(pv("a"), fun(pv("b"), unit()))), Free(p)
	one[0], two[0] = "changed", "changed"
	names(t, fun(pv("a"), fun(pv("b"), unit())), "a", "b")
	frees(t, "xy", p)
	if Plain(api.Part{L: []api.Part{}, At: 3}).At != 0 || len(Plain(api.Part{L: shared[:0]}).L) != 0 || cap(Plain(api.Part{L: shared[:0]}).L) != 0 {
		t.Error("empty")
	}
	if cap(two) > len(two) && two[:len(two)+1][len(two)] != "" {
		t.Error(two)
	}
	accepts(t, asExp(p))
	if text(p) != text(before) || shared[0].At != 5 {
		t.Error("changed")
	}
}
