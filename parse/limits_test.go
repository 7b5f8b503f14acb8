package parse

import (
	"strings"
	"testing"

	"gimlet/api"
)

// In front of each text stands another Decl, so that the place of the one that counts is told from 0.
const ahead = "exception E;; "

func TestParams(t *testing.T) {
	for _, n := range []int{1, 2, 63, 64} {
		text := "type (" + times("'a,", n-1) + "'b) t = A;;"
		accepts(t, text)
		l, _ := Parse(text)
		if l[0].N != n || len(l[0].L) != n+1 || l[0].L[n-1].S != "b" || l[0].L[n].Kind != api.PartCtor {
			t.Error(n, l)
		}
		wrong(t, "type ("+times("'a,", n-1)+"'b ^'c) t = A;;")
		wrong(t, "type ("+times("'a,", n)+"^) t = A;;")
	}
	for _, rest := range []string{"'a) t = A;;", "'a, 'a) t = A;;", ") t = A;;", "A", "", ","} {
		wrong(t, "type ("+times("'a,", 64)+"^"+rest)
		wrong(t, ahead+"type ("+times("'a ,", 64)+" (**) ^"+rest)
	}
	accepts(t, "type ("+times("'a,", 63)+"'a) t = A;; type ("+times("'a,", 63)+"'a) u = A;;")
}

func TestBracketTypes(t *testing.T) {
	for _, n := range []int{2, 3, 63, 64} {
		text := "exception E of (" + times("a,", n-1) + "b) t;;"
		accepts(t, text)
		l, _ := Parse(text)
		if p := l[0].L[0]; p.S != "t" || len(p.L) != n || p.L[n-1].S != "b" {
			t.Error(n, l)
		}
		wrong(t, "exception E of ("+times("a,", n-1)+"b) ^;;")
	}
	for _, rest := range []string{"a) t;;", "a, a) t;;", ") t;;", "A", "", "(a,"} {
		wrong(t, "exception E of ("+times("a,", 64)+"^"+rest)
		wrong(t, "type t = A of int | B of (a -> (b, ("+times("a ,", 64)+" ^"+rest)
	}
	full := "(" + times("a,", 63) + "a) t"
	accepts(t, "exception E of ("+times(full+",", 63)+full+") t;; exception F of "+full+" * "+full+" -> "+full+";;")
	wrong(t, "exception E of ("+times(full+",", 64)+"^"+full+") t;;")
	wrong(t, "exception E of ("+times(full+",", 63)+"("+times("a,", 64)+"^a) t) t;;")
	accepts(t, "let x = "+times("1,", 65)+"1;; let x = f "+times("1 ", 65)+";; let rec f = fun x -> x"+times(" and f = fun x -> x", 65)+";;")
	accepts(t, "let x = match x with "+times("_ -> 1 |", 65)+"_ -> 2;; type t = A"+times(" | A", 65)+";; let "+times("x,", 65)+"x = 1;;")
}

// within is a way in which a part stands in another one of its kind: n times open, then base, and n times close. With most of them it is read; with one more a part would begin within 1,000 others: at the base, or at a place in the last open.
type within struct {
	before, open, base, close, after string
	most                             int
	place                            int // -1: at the base
}

func (w within) text(n int) string {
	return ahead + w.before + times(w.open, n) + w.base + times(w.close, n) + w.after
}

// at is where the base stands, or that place in the last open.
func (w within) at(n int) int {
	if w.place <= 0 {
		return len(ahead) + len(w.before) + n*len(w.open)
	}
	return len(ahead) + len(w.before) + (n-1)*len(w.open) + w.place
}

func withins() []within {
	var l []within
	exp := func(open, close string, most, place int) {
		l = append(l, within{"let _ = ", open, "1", close, ";;", most, place}, within{"let rec f = fun _ -> ", open, "1", close, ";;", most, place})
	}
	exp("- ", "", 998, 0)
	exp("! ", "", 998, 0)
	exp("1; ", "", 998, 0)
	exp("( ", ")", 499, 0)
	exp("begin ", " end", 499, 0)
	exp("f (", ") 1", 499, 0)
	exp("f 1 begin ", " end", 499, 0)
	exp("A (", ")", 499, 0)
	exp("raise (", ")", 499, 0)
	exp("1 + 2 * (", ") * 3", 499, 0)
	exp("1, 1 := 1 < (", ")", 499, 0)
	exp("- (", ")", 332, 0)
	exp("fun x -> ", "", 998, 0)
	exp("let x = ", " in 1", 998, 0)
	exp("let x = 1 in ", "", 998, 8)
	exp("let x = (1) in ", "", 996, 9)
	exp("let rec f = fun x -> ", " in 1", 998, 0)
	exp("let rec f = fun x -> 1 and g = fun x -> ", " in 1", 998, 21)
	exp("let rec f = fun x -> 1 in ", "", 998, 21)
	exp("if ", " then 1 else 1", 998, 0)
	exp("if 1 then (", ") else 1", 499, 3)
	exp("match ", " with _ -> 1", 998, 0)
	exp("try ", " with _ -> 1", 998, 0)
	exp("match 1 with _ -> ", "", 998, 6)
	exp("try 1 with _ -> 1 | _ -> ", "", 998, 4)
	exp("match () with _, _ -> ", "", 998, 6)
	exp("(fun x -> ", ")", 332, 0)
	pat := func(open, close string, most, less, place int) {
		l = append(l, within{"let ", open, "x", close, " = 1;;", most, 0}, within{"let _ = fun ", open, "x", close, " -> 1;;", less, place}, within{"let _ = match 1 with A -> 1 | ", open, "x", close, " -> 1;;", less, place})
	}
	pat("(", ")", 999, 998, 0)
	pat("x, ", "", 999, 998, 0)
	pat("A (", ")", 999, 998, 0)
	pat("(x, ", ")", 499, 499, 1)
	typ := func(open, close string, most, place int) {
		l = append(l, within{"exception F of ", open, "t", close, ";;", most, place}, within{"type 'a t = A of ", open, "t", close, " | B;;", most, place})
	}
	typ("(", ")", 999, 0)
	typ("t -> ", "", 999, 0)
	typ("(t -> ", ")", 499, 0)
	typ("(t, ", ") t", 999, 1)
	typ("t * (", ") t", 999, 0)
	return l
}

func TestWithin(t *testing.T) {
	t.Parallel()
	for _, w := range withins() {
		for _, n := range []int{0, 1, 2, 40} {
			accepts(t, w.text(n))
			asRead(t, w.text(n))
		}
		text := w.text(w.most)
		if _, fault := Parse(text); fault != (api.Fault{}) && fault != (api.Fault{Err: api.ErrNest, At: len(ahead)}) {
			t.Errorf("Parse(%q): %v", short(text), fault)
		}
		asRead(t, text)
		for n := w.most + 1; n < w.most+4; n++ {
			asRead(t, w.text(n))
		}
		at := w.at(w.most + 1)
		refuses(t, w.text(w.most+1), api.ErrNest, at)
		refuses(t, w.text(w.most + 1)[:at], api.ErrNest, at)
	}
}

// Whatever word stands where such a part would begin, and where none does.
func TestWithinAnyWord(t *testing.T) {
	t.Parallel()
	for _, w := range withins() {
		if w.place > 0 {
			continue
		}
		begin := w.text(w.most + 1)[:w.at(w.most+1)] + " "
		for _, word := range allWords() {
			if w.takes(word) {
				continue
			}
			refuses(t, begin+word, api.ErrNest, len(begin))
			refuses(t, begin+"(**) "+word+" ;;", api.ErrNest, len(begin)+5)
		}
		refuses(t, begin, api.ErrNest, len(begin))
		refuses(t, begin+" \n", api.ErrNest, len(begin)+2)
	}
}

// takes tells whether a word is taken, at the base beyond, by something in which no such part would begin: a unit, or a part that begins with a Key.
func (w within) takes(word string) bool {
	if w.base != "t" && strings.HasSuffix(strings.TrimSpace(w.open), "(") && word == ")" {
		return true
	}
	inSeq := w.base == "1" && (w.most == 998 || w.most == 332) && w.open != "- " && w.open != "! "
	return inSeq && strings.Contains("let fun if match try", word)
}

// allWords are one of each Key and Sign, and some of the other kinds.
func allWords() []string {
	return strings.Fields(`and begin else end exception false fun if in let match mod of raise rec then true try type with ;; := -> <= ; ( ) , = < + - * / | ! _ 0 2147483647 "" "a" x f' A B 'a`)
}

// Where 999 such parts stand in one another, one more may begin, but what is in it may not.
func TestWithinKeys(t *testing.T) {
	t.Parallel()
	for _, begin := range []string{"let _ = " + times("1; ", 999), "let _ = " + times("fun x -> ", 999), "let _ = - " + times("begin ", 499), "let _ = " + times("(", 499) + "fun x ->"} {
		for _, rest := range []string{
			"let ^", "let ^x = 1 in 1", "let ^_", "let ^;;", "let ^= 1", "let rec f = fun ^", "let rec f = fun ^x -> x in f", "let rec f = fun ^)", "fun ^", "fun ^x -> x", "fun ^->", "if ^", "if ^1 then 1 else 1", "if ^then", "match ^", "match ^x with y -> y", "match ^with", "try ^", "try ^x with y -> y", "try ^with",
		} {
			at := strings.Index(rest, "^")
			text := begin + strings.Replace(rest, "^", "", 1)
			refuses(t, text, api.ErrNest, len(begin)+at)
			asRead(t, text)
		}
		for _, rest := range []string{"let rec ^", "let rec x^, y = 1", "let rec ^_ = 1", "let rec f ^(", "let rec f = ^1", "let rec f = ^(fun x -> x)"} {
			wrong(t, begin+rest)
		}
	}
	for _, text := range []string{"let _ = " + times("(", 499) + "()" + times(")", 499) + ";;", "let _ = " + times("(", 500) + ")" + times(")", 499) + ";;", "let " + times("(", 1000) + times(")", 1000) + " = 1;;"} {
		accepts(t, text)
		asRead(t, text)
	}
	refuses(t, "let _ = "+times("(", 500)+"("+times(")", 501)+";;", api.ErrNest, 508)
	refuses(t, "let "+times("(", 1001)+times(")", 1001)+" = 1;;", api.ErrNest, 1004)
	wrong(t, "let _ = "+times("(", 499)+"^;;")
	wrong(t, "let _ = "+times("begin ", 499)+"^")
	wrong(t, "let "+times("(", 999)+"^= 1;;")
	wrong(t, "exception E of "+times("(", 999)+"^)")
}

// What has ended does not count any more.
func TestWithinOthers(t *testing.T) {
	accepts(t, "let _ = "+times("((", 60)+"1"+times("), -1) + !(1)", 60)+";;")
	accepts(t, "let _ = f"+times(" (- - 1)", 190)+";;")
	accepts(t, times("let x, y = fun (x, y) -> - 1;;", 2000))
	accepts(t, times("exception E of (a -> b, a) t -> c;;", 1800))
	accepts(t, "let _ = match x with 0 -> 1"+times("| (x, A y) -> - (x, 1) ", 2500)+";;")
	accepts(t, "let rec f = fun x -> x"+times(" and f = fun (x, y) -> (- 1)", 2000)+";;")
	accepts(t, "let _ = "+times("(", 499)+"1"+times(")", 499)+", "+times("(", 499)+"1"+times(")", 499)+";;")
}

// deepened is a text of a Decl that is n deep, by each way in which one part can stand in another.
func deepened(n int) map[string]string {
	out := map[string]string{}
	exp := func(open, close string, each, least int) {
		if (n-least)%each == 0 {
			times := func(s string) string { return times(s, (n-least)/each) }
			out[open] = "let _ = " + times(open) + "1" + times(close) + ";;"
		}
	}
	for _, open := range []string{"- ", "! ", "raise (", "A (", "f (", "1; ", "1, ", "x := ", "fun x -> ", "let x = 1 in ", "if 1 then 1 else ", "1 + (", "1 = (", "1, ("} {
		exp(open, times(")", strings.Count(open, "(")), 1, 2)
	}
	exp("let x = (", ") in x", 1, 2)
	exp("if 1 then ", " else 1", 1, 2)
	exp("if (", ") then 1 else 1", 1, 2)
	exp("match (", ") with x -> x", 1, 3)
	exp("let rec f = fun x -> x in (x; ", ")", 2, 3)
	exp("match x with x -> ", "", 2, 2)
	exp("let rec f = fun x -> ", " in f", 3, 2)
	out["+"] = "let _ = 1" + times(" + 1", n-2) + ";;"
	out["*"] = "let _ = 1" + times(" * 1", n-2) + ";;"
	out["call"] = "let _ = f" + times(" 1", n-2) + ";;"
	out["pat ,"] = "let " + times("x, ", n-2) + "x = 1;;"
	out["pat A"] = "let " + times("A (", n-2) + "x" + times(")", n-2) + " = 1;;"
	out["type ->"] = "exception E of " + times("a -> ", n-2) + "a;;"
	out["type *"] = "exception E of " + times("a * ", n-2) + "a;;"
	out["type t"] = "type t = A of t" + times(" t", n-3) + ";;"
	out["type (,)"] = "type t = A of " + times("(a, ", n-3) + "a" + times(") t", n-3) + ";;"
	out["rec"] = "let rec f = fun _ -> " + times("- ", n-4) + "1;;"
	out["and"] = "let rec f = fun _ -> 1 and g = fun _ -> " + times("- ", n-4) + "1 and h = fun _ -> 1;;"
	return out
}

func TestDeep(t *testing.T) {
	t.Parallel()
	if len(deepened(200))+len(deepened(199))+len(deepened(198)) < 80 {
		t.Error(len(deepened(200)))
	}
	for _, n := range []int{198, 199, 200} {
		for _, text := range deepened(n) {
			accepts(t, text)
			accepts(t, ahead+text+text)
			l, _ := Parse(text)
			if len(l) != 1 || readDepth(l[0]) != n {
				t.Errorf("Parse(%q) is not %d deep", short(text), n)
			}
		}
	}
	for _, n := range []int{201, 202, 203, 300} {
		for _, text := range deepened(n) {
			refuses(t, text, api.ErrNest, 0)
			refuses(t, ahead+"  "+text, api.ErrNest, len(ahead)+2)
			refuses(t, ahead+text+text, api.ErrNest, len(ahead))
			asRead(t, ahead+text)
		}
	}
}

// The first fault, word by word: what is too deep is that when it has ended, whatever comes then.
func TestFirstFault(t *testing.T) {
	deep := "let _ = " + times("- ", 300) + "1"
	for _, rest := range []string{" ;;", "", " ", ";;;;", " in", " )", " let", " exception E;;", " = 1;;", ";; x", ";; let _ = " + times("(", 501), ", 1;;", " 1;;", " + 1 < 2;;"} {
		refuses(t, deep+rest, api.ErrNest, 0)
		asRead(t, ahead+deep+rest)
	}
	for _, rest := range []string{";^", "; ^;;", "; ^", ", ^", " + ^)", " < 1 + ^;;", " := ^=", " (^;;", " begin ^", " * ^"} {
		wrong(t, deep+rest)
	}
	refuses(t, deep+times("; 1", 1500)+";;", api.ErrNest, len(deep)+999*3-1)
	refuses(t, ahead+"let _ = ( "+times("- ", 300)+"1 ;;", api.ErrSyntax, len(ahead)+612)
	refuses(t, ahead+"let _ = "+times("(", 501)+" ) ) #", api.ErrByte, len(ahead)+514)
	refuses(t, ahead+"x "+deep, api.ErrSyntax, len(ahead))
	refuses(t, "let _ = "+times("(", 500)+"1 2 "+times("(", 10), api.ErrNest, 508)
	refuses(t, "let _ = "+times("(", 499)+"1 in "+times("(", 10), api.ErrSyntax, 509)
}

// Texts of as many bytes as there may be, with parts in one another that do not count.
func TestLongest(t *testing.T) {
	t.Parallel()
	for _, w := range []within{
		{before: "let _ = ", open: "1,", base: "1", after: ";;"}, {before: "let _ = ", open: "a:=", base: "1", after: ";;"}, {before: "let _ = ", open: "if 1then 1else ", base: "1", after: ";;"},
		{before: "let _ = ", open: "if 1then ", base: "1", close: " else 1", after: ";;"}, {before: "let _ = ", open: "1+", base: "1", after: ";;"}, {before: "let _ = ", open: "1*", base: "1", after: ";;"}, {before: "exception F of ", open: "t*", base: "t", after: ";;"},
	} {
		n := (65536 - len(w.text(0))) / (len(w.open) + len(w.close))
		refuses(t, w.text(n), api.ErrNest, len(ahead))
		refuses(t, w.text(n)[:w.at(n)], api.ErrSyntax, w.at(n))
	}
	refuses(t, "let _ = f"+times("()", 32762)+";;", api.ErrNest, 0)
	refuses(t, "exception F of t"+times(" t", 32759)+";;", api.ErrNest, 0)
	for _, open := range []string{"- ", "1;", "(", "fun x->", "let x=", "match ", "begin "} {
		text := "let _ = " + times(open, 65528/len(open))
		_, fault := Parse(text)
		if fault.Err != api.ErrNest || fault.At < 500 || fault.At > 9000 {
			t.Error(open, fault)
		}
	}
	accepts(t, times("exception E;;", 5041))
	accepts(t, "type t=A"+times("|A", 32763)+";;")
	accepts(t, "let x=match()with 0->1"+times("|_->1", 13102)+";;")
	refuses(t, times(";", 65536), api.ErrSyntax, 0)
	refuses(t, "exception E"+times(";", 65525), api.ErrSyntax, 13)
}
