package parse

import (
	"slices"
	"strings"

	"gimlet/api"
)

// The second reading, further: what the rules' nodes are as parts.

// own are the parts of what a node has, in order.
func (n node) own() []api.Part {
	var l []api.Part
	for _, x := range n.l {
		if x.rule != "" {
			l = append(l, x.parts()...)
		}
	}
	return l
}

// words are those that a node has by itself.
func (n node) words() []api.Word {
	var l []api.Word
	for _, x := range n.l {
		if x.rule == "" {
			l = append(l, x.word)
		}
	}
	return l
}

// from is what the words of a kind say.
func from(words []api.Word, kind int) []string {
	var l []string
	for _, w := range words {
		if w.Kind == kind {
			l = append(l, w.S)
		}
	}
	return l
}

func (n node) parts() []api.Part {
	own, words := n.own(), n.words()
	switch n.rule {
	case "Program", "Cases":
		return own
	case "Params":
		for _, w := range words {
			if w.Kind == api.WordVar {
				own = append(own, api.Part{Kind: api.TypeVar, S: w.S, At: w.At})
			}
		}
		return own
	case "Decl":
		return []api.Part{declOf(words, own)}
	case "Ctor":
		return []api.Part{{Kind: api.PartCtor, S: words[0].S, At: words[0].At, L: own}}
	case "Bind":
		fun := api.Part{Kind: api.ExpFun, At: words[2].At, L: own}
		return []api.Part{{Kind: api.PartBind, S: words[0].S, At: words[0].At, L: []api.Part{fun}}}
	case "Ty2":
		return []api.Part{namesOf(words, own[0])}
	case "Ty3":
		return []api.Part{typeOf(words, own)}
	case "Pat2":
		return []api.Part{patternOf(words, own)}
	case "One":
		return []api.Part{oneOf(words, own)}
	case "Cmp", "Add", "Mul":
		return []api.Part{operatorsOf(words, own)}
	case "Pat1", "Pre", "App", "Atom":
		return []api.Part{headOf(words, own, n.rule)}
	}
	kind := map[string]int{"Ty": api.TypeFun, "Ty1": api.TypePair, "Pat": api.PatPair, "Seq": api.ExpSeq, "Set": api.ExpSet, "Pair": api.ExpPair, "Case": api.PartCase}[n.rule]
	if len(own) == 1 {
		return own
	}
	return []api.Part{{Kind: kind, At: own[0].At, L: own}}
}

func declOf(words []api.Word, own []api.Part) api.Part {
	p := api.Part{At: words[0].At, L: own}
	switch {
	case words[0].S == "type":
		p.Kind, p.S = api.DeclType, from(words, api.WordName)[0]
		for _, x := range own {
			if x.Kind == api.TypeVar {
				p.N++
			}
		}
	case words[0].S == "exception":
		p.Kind, p.S = api.DeclExn, words[1].S
	case words[1].S == "rec":
		p.Kind = api.DeclRec
	default:
		p.Kind = api.DeclLet
	}
	return p
}

func namesOf(words []api.Word, p api.Part) api.Part {
	for _, w := range words {
		p = api.Part{Kind: api.TypeName, S: w.S, At: p.At, L: []api.Part{p}}
	}
	return p
}

func typeOf(words []api.Word, own []api.Part) api.Part {
	switch {
	case words[0].Kind == api.WordVar:
		return api.Part{Kind: api.TypeVar, S: words[0].S, At: words[0].At}
	case len(own) == 1:
		return own[0]
	}
	return api.Part{Kind: api.TypeName, S: words[len(words)-1].S, At: words[0].At, L: own}
}

func patternOf(words []api.Word, own []api.Part) api.Part {
	p := api.Part{S: words[0].S, N: words[0].N, At: words[0].At}
	switch words[0].Kind {
	case api.WordName:
		p.Kind = api.PatVar
		return p
	case api.WordCon:
		p.Kind = api.PatCon
		return p
	case api.WordInt:
		p.Kind = api.PatInt
		return p
	}
	p.S = ""
	switch words[0].S {
	case "_":
		p.Kind = api.PatAny
	case "-":
		p.Kind, p.N = api.PatInt, int(int32(uint32(-words[1].N)<<1)>>1)
	case "true":
		p.Kind, p.N = api.PatBool, 1
	case "false":
		p.Kind = api.PatBool
	default:
		p.Kind = api.PatUnit
		return slices.Concat(own, []api.Part{p})[0]
	}
	return p
}

func oneOf(words []api.Word, own []api.Part) api.Part {
	if len(words) == 0 {
		return own[0]
	}
	kinds := map[string]int{"let": api.ExpLet, "fun": api.ExpFun, "if": api.ExpIf, "match": api.ExpMatch, "try": api.ExpTry}
	p := api.Part{Kind: kinds[words[0].S], At: words[0].At, L: own}
	if words[1].S == "rec" {
		p.Kind = api.ExpRec
	}
	return p
}

func operatorsOf(words []api.Word, own []api.Part) api.Part {
	p := own[0]
	for i, w := range words {
		p = api.Part{Kind: api.ExpOp, S: w.S, At: p.At, L: []api.Part{p, own[i+1]}}
	}
	return p
}

// headOf is of a rule whose first word, if it has words, tells what it is.
func headOf(words []api.Word, own []api.Part, rule string) api.Part {
	if len(words) == 0 {
		p := own[0]
		for _, x := range own[1:] {
			p = api.Part{Kind: api.ExpCall, At: p.At, L: []api.Part{p, x}}
		}
		return p
	}
	w := words[0]
	if len(own) == 1 && (w.S == "(" || w.S == "begin") {
		return own[0]
	}
	p := api.Part{At: w.At, L: own}
	switch {
	case rule == "Pat1":
		p.Kind, p.S = api.PatCon, w.S
	case w.Kind == api.WordKey || w.Kind == api.WordSign:
		p.Kind = map[string]int{"-": api.ExpNeg, "!": api.ExpGet, "raise": api.ExpRaise, "(": api.ExpUnit, "true": api.ExpBool, "false": api.ExpBool}[w.S]
		p.N = strings.Count(w.S, "true")
	default:
		p.Kind = map[int]int{api.WordInt: api.ExpInt, api.WordText: api.ExpText, api.WordName: api.ExpVar, api.WordCon: api.ExpCon}[w.Kind]
		p.N, p.S = w.N, w.S
	}
	return p
}

func readDepth(p api.Part) int {
	deepest := 0
	for _, own := range p.L {
		deepest = max(deepest, readDepth(own))
	}
	return deepest + 1
}
