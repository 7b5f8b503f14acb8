package tree

import (
	"math"
	"slices"

	"gimlet/api"
	"gimlet/lex"
)

// role is a set of what a part can stand as in another one, or by itself.
type role uint16

const (
	aType  role = 1 << iota
	aParam      // a type that has only a name: what a declared type begins with
	aPattern
	anExp
	aFun // an expression that is a function: what a name of a PartBind is
	aCase
	aBind
	aCtor
	aDecl
)

// mostTypes is how many types a TypeName, and how many parameters a DeclType may have.
const mostTypes = 64

// anyNumber is how many parts there may be where the chapter names no limit.
const anyNumber = math.MaxInt

// operator is what S says in an ExpOp; in other parts it is the kind of a word, or 0 if S is empty.
const operator = -1

var operators = []string{"+", "-", "*", "/", "mod", "=", "<", "<="}

// shape is what the valid parts of one kind have: the parts in front, then least to most of those among them, then those at the back.
type shape struct {
	role        role
	says        int
	low, high   int  // N
	counted     bool // N is how many parameters stand in front
	front       []role
	among       role
	least, most int
	back        []role
}

// shapes returns the shape of each kind of which there are valid parts.
func shapes() map[int]shape {
	types, patterns := []role{aType, aType}, []role{aPattern, aPattern}
	exps, let := []role{anExp, anExp, anExp}, []role{aPattern, anExp, anExp}
	return map[int]shape{
		api.TypeVar:  {role: aType | aParam, says: api.WordVar},
		api.TypeName: {role: aType, says: api.WordName, among: aType, most: mostTypes},
		api.TypePair: {role: aType, front: types},
		api.TypeFun:  {role: aType, front: types},

		api.PatAny:  {role: aPattern},
		api.PatVar:  {role: aPattern, says: api.WordName},
		api.PatInt:  {role: aPattern, low: api.MinInt, high: api.MaxInt},
		api.PatUnit: {role: aPattern},
		api.PatBool: {role: aPattern, high: 1},
		api.PatPair: {role: aPattern, front: patterns},
		api.PatCon:  {role: aPattern, says: api.WordCon, among: aPattern, most: 1},

		api.ExpInt:   {role: anExp, low: api.MinInt, high: api.MaxInt},
		api.ExpText:  {role: anExp, says: api.WordText},
		api.ExpUnit:  {role: anExp},
		api.ExpBool:  {role: anExp, high: 1},
		api.ExpVar:   {role: anExp, says: api.WordName},
		api.ExpCon:   {role: anExp, says: api.WordCon, among: anExp, most: 1},
		api.ExpPair:  {role: anExp, front: exps[:2]},
		api.ExpFun:   {role: anExp | aFun, front: let[:2]},
		api.ExpCall:  {role: anExp, front: exps[:2]},
		api.ExpLet:   {role: anExp, front: let},
		api.ExpRec:   {role: anExp, among: aBind, least: 1, most: anyNumber, back: exps[:1]},
		api.ExpIf:    {role: anExp, front: exps},
		api.ExpMatch: {role: anExp, front: exps[:1], among: aCase, least: 1, most: anyNumber},
		api.ExpTry:   {role: anExp, front: exps[:1], among: aCase, least: 1, most: anyNumber},
		api.ExpRaise: {role: anExp, front: exps[:1]},
		api.ExpSeq:   {role: anExp, front: exps[:2]},
		api.ExpGet:   {role: anExp, front: exps[:1]},
		api.ExpSet:   {role: anExp, front: exps[:2]},
		api.ExpOp:    {role: anExp, says: operator, front: exps[:2]},
		api.ExpNeg:   {role: anExp, front: exps[:1]},

		api.PartCase: {role: aCase, front: let[:2]},
		api.PartBind: {role: aBind, says: api.WordName, front: []role{aFun}},
		api.PartCtor: {role: aCtor, says: api.WordCon, among: aType, most: 1},
		api.DeclType: {role: aDecl, says: api.WordName, high: mostTypes, counted: true, among: aCtor, least: 1, most: anyNumber},
		api.DeclExn:  {role: aDecl, says: api.WordCon, among: aType, most: 1},
		api.DeclLet:  {role: aDecl, front: let[:2]},
		api.DeclRec:  {role: aDecl, among: aBind, least: 1, most: anyNumber},
	}
}

// valid returns whether all of l are valid parts that can stand as one of roles.
func valid(l []api.Part, roles role) bool {
	table := shapes()
	right := true
parts:
	for _, p := range l {
		right = table[p.Kind].role&roles != 0
		if !right {
			break parts
		}
		for _, part := range within(p) {
			right = fits(table, part)
			if !right {
				break parts
			}
		}
	}
	return right
}

// fits returns whether p is a valid part, apart from what is in its own parts.
func fits(table map[int]shape, p api.Part) bool {
	s := table[p.Kind]
	return s.fields(p) && slices.EqualFunc(p.L, s.wanted(p), func(own api.Part, as role) bool {
		return table[own.Kind].role&as != 0
	})
}

// fields returns whether a part's fields, apart from its own parts, are as its shape asks.
func (s shape) fields(p api.Part) bool {
	return 0 <= p.At && p.At <= api.MaxText && s.low <= p.N && p.N <= s.high && s.text(p.S)
}

func (s shape) text(text string) bool {
	switch s.says {
	case 0:
		return text == ""
	case operator:
		return slices.Contains(operators, text)
	}
	// lex refuses a word whose text no word of that kind has.
	_, err := lex.Write([]api.Word{{Kind: s.says, S: text}})
	return err == api.OK
}

// wanted returns what p's own parts have to stand as: too few or too many if p, whose fields are right, has not as many as it must.
func (s shape) wanted(p api.Part) []role {
	front := s.front
	if s.counted {
		front = slices.Repeat([]role{aParam}, p.N)
	}
	number := len(p.L) - len(front) - len(s.back)
	among := slices.Repeat([]role{s.among}, min(max(number, s.least), s.most))
	return slices.Concat(front, among, s.back)
}
