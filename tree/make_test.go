package tree

import (
	"slices"
	"strconv"
	"strings"
	"testing"

	"gimlet/api"
)

// dice are numbers that look random and are the same in each run.
type dice uint64

func (d *dice) below(n int) int {
	*d = *d*6364136223846793005 + 1442695040888963407
	return int(uint64(*d) >> 33 % uint64(n))
}

func of[T any](d *dice, l ...T) T { return l[d.below(len(l))] }

func part(kind int, l ...api.Part) api.Part { return api.Part{Kind: kind, L: l} }

func named(kind int, s string, l ...api.Part) api.Part { return api.Part{Kind: kind, S: s, L: l} }

func numbered(kind, n int, l ...api.Part) api.Part { return api.Part{Kind: kind, N: n, L: l} }

func v(s string) api.Part { return named(api.ExpVar, s) }

func pv(s string) api.Part { return named(api.PatVar, s) }

func tv(s string) api.Part { return named(api.TypeVar, s) }

func tn(s string, l ...api.Part) api.Part { return named(api.TypeName, s, l...) }

func unit() api.Part { return part(api.ExpUnit) }

func dash() api.Part { return part(api.PatAny) }

func pair(a, b api.Part) api.Part { return part(api.PatPair, a, b) }

func fun(p, e api.Part) api.Part { return part(api.ExpFun, p, e) }

func call(a, b api.Part) api.Part { return part(api.ExpCall, a, b) }

func op(s string, a, b api.Part) api.Part { return named(api.ExpOp, s, a, b) }

func let(p, a, b api.Part) api.Part { return part(api.ExpLet, p, a, b) }

func rec(l ...api.Part) api.Part { return part(api.ExpRec, l...) }

func kase(p, e api.Part) api.Part { return part(api.PartCase, p, e) }

func bind(s string, p, e api.Part) api.Part { return named(api.PartBind, s, fun(p, e)) }

func ctor(s string, l ...api.Part) api.Part { return named(api.PartCtor, s, l...) }

func declType(s string, n int, l ...api.Part) api.Part {
	return api.Part{Kind: api.DeclType, S: s, N: n, L: l}
}

func declLet(p, e api.Part) api.Part { return part(api.DeclLet, p, e) }

// asExp is a program that is valid exactly if e is a valid expression; asPattern, asType and so on likewise.
func asExp(e api.Part) api.Part { return declLet(dash(), e) }

func asPattern(p api.Part) api.Part { return declLet(p, unit()) }

func asType(p api.Part) api.Part { return named(api.DeclExn, "E", p) }

func asCase(p api.Part) api.Part { return asExp(part(api.ExpMatch, unit(), p)) }

func asBind(p api.Part) api.Part { return part(api.DeclRec, p) }

func asCtor(p api.Part) api.Part { return declType("t", 0, p) }

func times[T any](n int, x T) []T { return slices.Repeat([]T{x}, n) }

func long(s string, n int) string { return strings.Repeat(s, n) }

// nested is e within n others that have one part.
func nested(e api.Part, n int) api.Part {
	for range n {
		e = part(api.ExpNeg, e)
	}
	return e
}

// text is all of a part in one text, apart from where it begins.
func text(p api.Part) string {
	s := "(" + strconv.Itoa(p.Kind) + " " + strconv.Itoa(p.N) + " " + strconv.Quote(p.S)
	for _, own := range p.L {
		s += text(own)
	}
	return s + ")"
}

// copied is a part with lists of its own.
func copied(p api.Part) api.Part {
	p.L = slices.Clone(p.L)
	for i := range p.L {
		p.L[i] = copied(p.L[i])
	}
	return p
}

// placed is a copy of a part whose parts begin elsewhere.
func placed(d *dice, p api.Part) api.Part {
	p.At = d.below(65537)
	p.L = slices.Clone(p.L)
	for i := range p.L {
		p.L[i] = placed(d, p.L[i])
	}
	return p
}

func short(s string) string {
	if len(s) > 300 {
		return s[:300] + ".."
	}
	return s
}

// checks holds Check against the error that it has to return.
func checks(t *testing.T, want api.Errno, l ...api.Part) {
	t.Helper()
	if err := Check(l); err != want {
		t.Errorf("Check of %s: %v, want %v", short(text(part(0, l...))), err, want)
	}
}

func accepts(t *testing.T, l ...api.Part) {
	t.Helper()
	checks(t, api.OK, l...)
}

func refuses(t *testing.T, l ...api.Part) {
	t.Helper()
	checks(t, api.ErrArg, l...)
}

// frees holds Free against the names, of one letter each, that it has to return.
func frees(t *testing.T, want string, p api.Part) {
	t.Helper()
	if got := strings.Join(Free(p), ""); got != want {
		t.Errorf("Free of %s: %q, want %q", short(text(p)), got, want)
	}
}

// asRead holds all functions for one part against the second reading.
func asRead(t *testing.T, p api.Part) bool {
	t.Helper()
	for _, program := range []api.Part{p, asExp(p), asPattern(p), asType(p), asCase(p), asBind(p), asCtor(p)} {
		if got, want := Check([]api.Part{program}), readCheck([]api.Part{program}); got != want {
			t.Fatalf("Check of %s: %v, want %v", text(program), got, want)
		}
	}
	if got, want := Free(p), readFree(p); !slices.Equal(got, want) {
		t.Fatalf("Free of %s: %q, want %q", text(p), got, want)
	}
	if got, want := Names(p), readNames(p); !slices.Equal(got, want) {
		t.Fatalf("Names of %s: %q, want %q", text(p), got, want)
	}
	if d, n := Depth(p), Size(p); d != readDepth(p) || n != readSize(p) {
		t.Fatalf("Depth and Size of %s: %d, %d, want %d, %d", text(p), d, n, readDepth(p), readSize(p))
	}
	return Check([]api.Part{p}) == api.OK
}
