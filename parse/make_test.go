package parse

import (
	"reflect"
	"slices"
	"strconv"
	"strings"
	"testing"

	"gimlet/api"
	"gimlet/lex"
	"gimlet/tree"
)

// dice are numbers that look random and are the same in each run.
type dice uint64

func (d *dice) below(n int) int {
	*d = *d*6364136223846793005 + 1442695040888963407
	return int(uint64(*d) >> 33 % uint64(n))
}

func of[T any](d *dice, l ...T) T { return l[d.below(len(l))] }

func times(s string, n int) string { return strings.Repeat(s, n) }

func short(s string) string {
	if len(s) > 200 {
		return s[:140] + " .. " + s[len(s)-50:]
	}
	return s
}

// show is all of a part in one text: its kind, S or N, where it begins, seen from a place, and its parts.
func show(p api.Part, from int) string {
	s := kindNames()[p.Kind]
	if p.S != "" || p.Kind == api.ExpText {
		s += " " + p.S
	}
	if p.N != 0 || p.Kind == api.ExpInt || p.Kind == api.PatInt || p.Kind == api.ExpBool || p.Kind == api.PatBool {
		s += " " + strconv.Itoa(p.N)
	}
	s += "@" + strconv.Itoa(p.At-from)
	if len(p.L) > 0 {
		s += "(" + showAll(p.L, from) + ")"
	}
	return s
}

func showAll(l []api.Part, from int) string {
	var texts []string
	for _, p := range l {
		texts = append(texts, show(p, from))
	}
	return strings.Join(texts, ", ")
}

func kindNames() map[int]string {
	out := map[int]string{}
	for from, names := range map[int]string{
		1: "TypeVar TypeName TypePair TypeFun", 10: "Any Var Int Unit Bool Pair Con", 45: "Case Bind Ctor", 50: "Type Exn Let Rec",
		20: "Int Text Unit Bool Var Con Pair Fun Call Let Rec If Match Try Raise Seq Get Set Op Neg",
	} {
		for i, name := range strings.Fields(names) {
			out[from+i] = name
		}
	}
	return out
}

// emptied is a part without lists that are empty and not nil, which are equal to nil.
func emptied(p api.Part) api.Part {
	p.L = slices.Clone(p.L)
	for i := range p.L {
		p.L[i] = emptied(p.L[i])
	}
	if len(p.L) == 0 {
		p.L = nil
	}
	return p
}

func same(a, b []api.Part) bool {
	return reflect.DeepEqual(emptied(api.Part{L: a}), emptied(api.Part{L: b}))
}

// parses holds Parse against the program that it has to return.
func parses(t *testing.T, text, want string) {
	t.Helper()
	saysWithin(t, "", text, "", want)
}

// expression, and so on, hold what Parse returns for a text that stands in a declaration; places are seen from where it begins.
func expression(t *testing.T, text, want string) {
	t.Helper()
	saysWithin(t, "let _ = ", text, ";;", want)
}

func pattern(t *testing.T, text, want string) {
	t.Helper()
	saysWithin(t, "let ", text, " = ();;", want)
}

func typed(t *testing.T, text, want string) {
	t.Helper()
	saysWithin(t, "exception E of ", text, ";;", want)
}

func saysWithin(t *testing.T, before, text, after, want string) {
	t.Helper()
	text = before + text + after
	l, fault := Parse(text)
	if fault != (api.Fault{}) {
		t.Errorf("Parse(%q): %v", text, fault)
		return
	}
	holds(t, text, l)
	asRead(t, text)
	switch before {
	case "let ", "exception E of ":
		l = l[0].L[:1]
	case "let _ = ":
		l = l[0].L[1:]
	}
	if got := showAll(l, len(before)); got != want {
		t.Errorf("Parse(%q) = %s, want %s", text, got, want)
	}
}

// refuses holds Parse against the fault that it has to return.
func refuses(t *testing.T, text string, err api.Errno, at int) {
	t.Helper()
	got, fault := Parse(text)
	if fault != (api.Fault{Err: err, At: at}) || got != nil {
		t.Errorf("Parse(%q) = %d parts, %v, want %v at %d", short(text), len(got), fault, err, at)
	}
}

// wrong holds the fault of a text in which a ^ stands in front of the word that can't follow; at the end it stands for the word that is missing.
func wrong(t *testing.T, text string) {
	t.Helper()
	at := strings.Index(text, "^")
	text = strings.Replace(text, "^", "", 1)
	refuses(t, text, api.ErrSyntax, at)
	asRead(t, text)
}

// accepts holds that Parse returns a program.
func accepts(t *testing.T, text string) {
	t.Helper()
	got, fault := Parse(text)
	if fault != (api.Fault{}) {
		t.Errorf("Parse(%q): %v", short(text), fault)
		return
	}
	holds(t, text, got)
}

// asRead holds Parse against the second reading.
func asRead(t *testing.T, text string) api.Fault {
	t.Helper()
	want, fault := readParse(text)
	got, f := Parse(text)
	if f != fault || !same(got, want) {
		t.Fatalf("Parse(%q) = %s, %v, want %s, %v", short(text), short(showAll(got, 0)), f, short(showAll(want, 0)), fault)
	}
	holds(t, text, got)
	return f
}

// holds is P17.2, for what has been parsed.
func holds(t *testing.T, text string, l []api.Part) {
	t.Helper()
	if err := tree.Check(l); err != api.OK {
		t.Fatalf("Parse(%q) is no program: %v", short(text), err)
	}
	words, _ := lex.Lex(text)
	begins := map[int]api.Word{}
	for _, w := range words {
		begins[w.At] = w
	}
	for _, p := range l {
		holdsAt(t, text, begins, p)
	}
}

func holdsAt(t *testing.T, text string, begins map[int]api.Word, p api.Part) {
	t.Helper()
	first := first(p)
	w, ok := begins[first.At]
	if !ok || first.At != p.At || !canBegin(w, first) {
		t.Fatalf("Parse(%q): %s does not begin at %d", short(text), short(show(p, 0)), p.At)
	}
	for _, own := range p.L {
		if own.At < p.At {
			t.Fatalf("Parse(%q): %s begins ahead of %s", short(text), short(show(own, 0)), short(show(p, 0)))
		}
		holdsAt(t, text, begins, own)
	}
}

// first is the part that a part begins with: itself, if it begins with a word of its own.
func first(p api.Part) api.Part {
	switch p.Kind {
	case api.TypePair, api.TypeFun, api.PatPair, api.ExpPair, api.ExpCall, api.ExpSeq, api.ExpSet, api.ExpOp, api.PartCase:
		return first(p.L[0])
	case api.TypeName:
		if len(p.L) == 1 {
			return first(p.L[0])
		}
	}
	return p
}

// canBegin tells whether a part that begins with a word of its own does so with this one.
func canBegin(w api.Word, p api.Part) bool {
	mark := map[int]string{
		api.PatAny: "_", api.PatUnit: "(", api.ExpUnit: "(", api.ExpFun: "fun", api.ExpLet: "let", api.ExpRec: "let", api.ExpIf: "if", api.ExpMatch: "match", api.ExpTry: "try",
		api.ExpRaise: "raise", api.ExpGet: "!", api.ExpNeg: "-", api.DeclType: "type", api.DeclExn: "exception", api.DeclLet: "let", api.DeclRec: "let",
	}[p.Kind]
	switch p.Kind {
	case api.TypeName:
		return len(p.L) == 0 && w.Kind == api.WordName && w.S == p.S || len(p.L) > 1 && w.Kind == api.WordSign && w.S == "("
	case api.TypeVar:
		return w.Kind == api.WordVar && w.S == p.S
	case api.PatVar, api.ExpVar, api.PartBind:
		return w.Kind == api.WordName && w.S == p.S
	case api.PatCon, api.ExpCon, api.PartCtor:
		return w.Kind == api.WordCon && w.S == p.S
	case api.ExpText:
		return w.Kind == api.WordText && w.S == p.S
	case api.ExpInt:
		return w.Kind == api.WordInt && w.N == p.N
	case api.PatInt:
		return w.Kind == api.WordInt && w.N == p.N || w.Kind == api.WordSign && w.S == "-"
	case api.PatBool, api.ExpBool:
		return w.Kind == api.WordKey && w.S == []string{"false", "true"}[p.N]
	}
	return (w.Kind == api.WordKey || w.Kind == api.WordSign) && w.S == mark
}
