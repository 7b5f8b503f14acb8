package parse

import (
	"slices"
	"strings"

	"gimlet/api"
	"gimlet/lex"
)

// This is a second reading of the chapter: its grammar, as it stands there, is followed word by word.

const grammarText = `
Program = { Decl ";;" }
Decl    = "type" [ Params ] Name "=" Ctor { "|" Ctor }
        | "exception" Con [ "of" Ty ]
        | "let" Pat "=" Seq
        | "let" "rec" Bind { "and" Bind }
Params  = Var | "(" Var { "," Var } ")"
Ctor    = Con [ "of" Ty ]
Bind    = Name "=" "fun" Pat "->" Seq
Ty      = Ty1 [ "->" Ty ]
Ty1     = Ty2 [ "*" Ty1 ]
Ty2     = Ty3 { Name }
Ty3     = Var | Name | "(" Ty ")" | "(" Ty "," Ty { "," Ty } ")" Name
Pat     = Pat1 [ "," Pat ]
Pat1    = Con [ Pat2 ] | Pat2
Pat2    = "_" | Name | Int | "-" Int | "(" ")" | "(" Pat ")" | "true" | "false" | Con
Seq     = One [ ";" Seq ]
One     = "let" Pat "=" Seq "in" Seq
        | "let" "rec" Bind { "and" Bind } "in" Seq
        | "fun" Pat "->" Seq
        | "if" Seq "then" One "else" One
        | "match" Seq "with" Cases | "try" Seq "with" Cases
        | Set
Cases   = [ "|" ] Case { "|" Case }
Case    = Pat "->" Seq
Set     = Pair [ ":=" One ]
Pair    = Cmp [ "," Pair ]
Cmp     = Add [ ( "=" | "<" | "<=" ) Add ]
Add     = Mul { ( "+" | "-" ) Mul }
Mul     = Pre { ( "*" | "/" | "mod" ) Pre }
Pre     = "-" Pre | "!" Pre | App
App     = "raise" Atom | Con [ Atom ] | Atom { Atom }
Atom    = Int | Text | "(" ")" | "(" Seq ")" | "begin" Seq "end" | "true" | "false" | Name | Con
`

// symbol is something in a rule: a word of a kind, a word by itself (with its quotes), a rule's name; or [, { or ( and what stands in it.
type symbol struct {
	s    string
	alts [][]symbol
}

// grammar is what the rules are, what each may begin with, and what the rest of one may, from each symbol on.
type grammar struct {
	rules  map[string][][]symbol
	firsts map[string]map[string]bool
	begins map[*symbol]map[string]bool
}

var theGrammar = readGrammar()

func readGrammar() grammar {
	g := grammar{map[string][][]symbol{}, map[string]map[string]bool{}, map[*symbol]map[string]bool{}}
	text := strings.ReplaceAll(grammarText, "\n ", " ")
	for _, line := range strings.Split(strings.TrimSpace(text), "\n") {
		words := strings.Fields(line)
		g.rules[words[0]], _ = readAlts(words[2:])
	}
	for name := range g.rules {
		g.firsts[name] = map[string]bool{}
	}
	for grown := true; grown; {
		grown = false
		for name, alts := range g.rules {
			for _, l := range alts {
				for s := range g.first(l) {
					grown = grown || !g.firsts[name][s]
					g.firsts[name][s] = true
				}
			}
		}
	}
	for _, alts := range g.rules {
		g.note(alts)
	}
	return g
}

func (g grammar) note(alts [][]symbol) {
	for _, l := range alts {
		for i := range l {
			g.begins[&l[i]] = g.first(l[i:])
			g.note(l[i].alts)
		}
	}
}

// readAlts reads alternatives up to a bracket, or the end, and returns the words behind it.
func readAlts(words []string) ([][]symbol, []string) {
	alts := [][]symbol{nil}
	for len(words) > 0 {
		w := words[0]
		words = words[1:]
		last := &alts[len(alts)-1]
		switch w {
		case "]", "}", ")":
			return alts, words
		case "|":
			alts = append(alts, nil)
		case "[", "{", "(":
			var inner [][]symbol
			inner, words = readAlts(words)
			*last = append(*last, symbol{w, inner})
		default:
			*last = append(*last, symbol{s: w})
		}
	}
	return alts, nil
}

// first returns the words that symbols may begin with: those of what may be left out, too, and of what is behind it.
func (g grammar) first(l []symbol) map[string]bool {
	out := map[string]bool{}
	for _, x := range l {
		for _, alt := range x.alts {
			for s := range g.first(alt) {
				out[s] = true
			}
		}
		if x.alts == nil && g.rules[x.s] == nil {
			out[x.s] = true
		}
		for s := range g.firsts[x.s] {
			out[s] = true
		}
		if x.s != "[" && x.s != "{" {
			break
		}
	}
	return out
}

// node is what a rule has been read as, or a word (of no rule).
type node struct {
	rule string
	word api.Word
	l    []node
}

type reader struct {
	words []api.Word
	end   int
	open  int
}

type fell struct{ fault api.Fault }

func (r *reader) fall(err api.Errno) { panic(fell{api.Fault{Err: err, At: r.word().At}}) }

func (r *reader) word() api.Word {
	if len(r.words) == 0 {
		return api.Word{At: r.end}
	}
	return r.words[0]
}

// next is the next word as the grammar writes it.
func (r *reader) next() string {
	w := r.word()
	if w.Kind == api.WordKey || w.Kind == api.WordSign {
		return `"` + w.S + `"`
	}
	return []string{"end", "Int", "Text", "Name", "Con", "Var"}[w.Kind]
}

func (r *reader) may(l []symbol) bool { return theGrammar.begins[&l[0]][r.next()] }

func (r *reader) rule(name string) node {
	counts := slices.Contains([]string{"Ty", "Pat", "Seq", "Pre"}, name)
	if counts {
		if r.open == 1000 {
			r.fall(api.ErrNest)
		}
		r.open++
	}
	n := node{rule: name}
	r.alts(&n, theGrammar.rules[name])
	if counts {
		r.open--
	}
	return n
}

// alts reads the first one that may begin with the next word: those that begin with the same symbol as long as they are alike.
func (r *reader) alts(into *node, alts [][]symbol) {
	if len(alts) == 1 {
		r.sequence(into, alts[0])
		return
	}
	fits := slices.DeleteFunc(slices.Clone(alts), func(l []symbol) bool { return !r.may(l) })
	if len(fits) == 0 {
		// Whatever word stands there: a rule begins there, if one may.
		fits = slices.DeleteFunc(slices.Clone(alts), func(l []symbol) bool { return theGrammar.rules[l[0].s] == nil })
	}
	if len(fits) == 0 {
		r.fall(api.ErrSyntax)
	}
	var tails [][]symbol
	for _, l := range fits {
		if l[0].s == fits[0][0].s {
			tails = append(tails, l[1:])
		}
	}
	if len(tails) == 1 {
		r.sequence(into, fits[0])
		return
	}
	r.symbol(into, fits[0][0])
	r.alts(into, tails)
}

func (r *reader) sequence(into *node, l []symbol) {
	for _, x := range l {
		r.symbol(into, x)
	}
}

func (r *reader) symbol(into *node, x symbol) {
	switch x.s {
	case "[":
		if slices.ContainsFunc(x.alts, r.may) {
			r.alts(into, x.alts)
		}
		return
	case "{":
		for slices.ContainsFunc(x.alts, r.may) {
			r.alts(into, x.alts)
		}
		return
	case "(":
		r.alts(into, x.alts)
		return
	}
	if into.rule == "Params" && x.s == "Var" && into.count(api.WordVar) == 64 || into.rule == "Ty3" && x.s == "Ty" && into.count(0) == 64 {
		r.fall(api.ErrSyntax)
	}
	if theGrammar.rules[x.s] != nil {
		n := r.rule(x.s)
		if x.s == "Decl" {
			ended(n)
		}
		into.l = append(into.l, n)
		return
	}
	if r.next() != x.s {
		r.fall(api.ErrSyntax)
	}
	into.l = append(into.l, node{word: r.words[0]})
	r.words = r.words[1:]
}

// count is how many words of a kind a node has by itself; of 0, how many rules.
func (n node) count(kind int) int {
	out := 0
	for _, own := range n.l {
		if own.word.Kind == kind {
			out++
		}
	}
	return out
}

// ended refuses a Decl that is too deep.
func ended(n node) {
	if p := n.parts()[0]; readDepth(p) > 200 {
		panic(fell{api.Fault{Err: api.ErrNest, At: p.At}})
	}
}

// readParse is P17.1.
func readParse(text string) (program []api.Part, fault api.Fault) {
	words, fault := lex.Lex(text)
	if fault.Err != api.OK {
		return nil, fault
	}
	defer func() {
		switch x := recover().(type) {
		case nil:
		case fell:
			program, fault = nil, x.fault
		default:
			panic(x)
		}
	}()
	r := &reader{words: words, end: len(text)}
	n := r.rule("Program")
	if len(r.words) > 0 {
		r.fall(api.ErrSyntax)
	}
	return n.parts(), api.Fault{}
}
