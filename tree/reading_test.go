package tree

import (
	"regexp"
	"slices"

	"gimlet/api"
)

// This is a second reading of the chapter: a function a group, which calls itself for the parts.

var (
	readName = regexp.MustCompile(`^[a-z_][a-zA-Z0-9_']{0,63}$`)
	readCon  = regexp.MustCompile(`^[A-Z][a-zA-Z0-9_']{0,63}$`)
	readVar  = regexp.MustCompile(`^[a-z][a-zA-Z0-9_']{0,63}$`)
	readKey  = regexp.MustCompile(`^(and|begin|else|end|exception|false|fun|if|in|let|match|mod|of|raise|rec|then|true|try|type|with|_)$`)
)

func isName(s string) bool { return readName.MatchString(s) && !readKey.MatchString(s) }

func isCon(s string) bool { return readCon.MatchString(s) }

func isVar(s string) bool { return readVar.MatchString(s) }

func placeFits(p api.Part) bool { return p.At >= 0 && p.At <= 65536 }

// bare tells whether of a part's text and number, those that it may have taken off, nothing is left.
func bare(p api.Part, s string, n int) bool { return placeFits(p) && p.S == s && p.N == n }

func all(l []api.Part, is func(api.Part) bool) bool {
	for _, p := range l {
		if !is(p) {
			return false
		}
	}
	return true
}

// parts tells whether l are as many parts as there are groups, each of its group.
func parts(l []api.Part, groups ...func(api.Part) bool) bool {
	if len(l) != len(groups) {
		return false
	}
	for i, is := range groups {
		if !is(l[i]) {
			return false
		}
	}
	return true
}

func isType(p api.Part) bool {
	switch p.Kind {
	case 1:
		return isTypeVar(p)
	case 2:
		return bare(p, p.S, 0) && isName(p.S) && len(p.L) <= 64 && all(p.L, isType)
	case 3, 4:
		return bare(p, "", 0) && parts(p.L, isType, isType)
	}
	return false
}

func isTypeVar(p api.Part) bool {
	return p.Kind == 1 && bare(p, p.S, 0) && isVar(p.S) && len(p.L) == 0
}

func isPattern(p api.Part) bool {
	switch p.Kind {
	case 10, 13:
		return bare(p, "", 0) && len(p.L) == 0
	case 11:
		return bare(p, p.S, 0) && isName(p.S) && len(p.L) == 0
	case 12:
		return bare(p, "", p.N) && p.N >= -1073741824 && p.N <= 1073741823 && len(p.L) == 0
	case 14:
		return bare(p, "", p.N) && (p.N == 0 || p.N == 1) && len(p.L) == 0
	case 15:
		return bare(p, "", 0) && parts(p.L, isPattern, isPattern)
	case 16:
		return bare(p, p.S, 0) && isCon(p.S) && len(p.L) < 2 && all(p.L, isPattern)
	}
	return false
}

func isExp(p api.Part) bool {
	switch p.Kind {
	case 20:
		return bare(p, "", p.N) && p.N >= -1073741824 && p.N <= 1073741823 && len(p.L) == 0
	case 21:
		return bare(p, p.S, 0) && len(p.S) < 4097 && len(p.L) == 0
	case 22:
		return bare(p, "", 0) && len(p.L) == 0
	case 23:
		return bare(p, "", p.N) && (p.N == 0 || p.N == 1) && len(p.L) == 0
	case 24:
		return bare(p, p.S, 0) && isName(p.S) && len(p.L) == 0
	case 25:
		return bare(p, p.S, 0) && isCon(p.S) && len(p.L) < 2 && all(p.L, isExp)
	case 27:
		return isFun(p)
	case 38:
		return bare(p, p.S, 0) && isOp(p.S) && parts(p.L, isExp, isExp)
	}
	return bare(p, "", 0) && isPlainExp(p)
}

func isOp(s string) bool {
	switch s {
	case "+", "-", "*", "/", "mod", "=", "<", "<=":
		return true
	}
	return false
}

func isFun(p api.Part) bool {
	return p.Kind == 27 && bare(p, "", 0) && parts(p.L, isPattern, isExp)
}

// isPlainExp is isExp for those that have parts alone.
func isPlainExp(p api.Part) bool {
	switch p.Kind {
	case 26, 28, 35, 37:
		return parts(p.L, isExp, isExp)
	case 29:
		return parts(p.L, isPattern, isExp, isExp)
	case 30:
		n := len(p.L)
		return n >= 2 && all(p.L[:n-1], isBind) && isExp(p.L[n-1])
	case 31:
		return parts(p.L, isExp, isExp, isExp)
	case 32, 33:
		return len(p.L) >= 2 && isExp(p.L[0]) && all(p.L[1:], isCase)
	case 34, 36, 39:
		return parts(p.L, isExp)
	}
	return false
}

func isCase(p api.Part) bool {
	return p.Kind == 45 && bare(p, "", 0) && parts(p.L, isPattern, isExp)
}

func isBind(p api.Part) bool {
	return p.Kind == 46 && bare(p, p.S, 0) && isName(p.S) && parts(p.L, isFun)
}

func isCtor(p api.Part) bool {
	return p.Kind == 47 && bare(p, p.S, 0) && isCon(p.S) && len(p.L) < 2 && all(p.L, isType)
}

func isDecl(p api.Part) bool {
	switch p.Kind {
	case 50:
		if p.N < 0 || p.N > 64 || len(p.L) < p.N+1 {
			return false
		}
		return bare(p, p.S, p.N) && isName(p.S) && all(p.L[:p.N], isTypeVar) && all(p.L[p.N:], isCtor)
	case 51:
		return bare(p, p.S, 0) && isCon(p.S) && len(p.L) < 2 && all(p.L, isType)
	case 52:
		return bare(p, "", 0) && parts(p.L, isPattern, isExp)
	case 53:
		return bare(p, "", 0) && len(p.L) > 0 && all(p.L, isBind)
	}
	return false
}

func readCheck(l []api.Part) api.Errno {
	if !all(l, isDecl) {
		return api.ErrArg
	}
	for _, p := range l {
		if readDepth(p) >= 201 {
			return api.ErrDeep
		}
	}
	return api.OK
}

func readDepth(p api.Part) int {
	depth := 0
	for _, own := range p.L {
		if d := readDepth(own); d > depth {
			depth = d
		}
	}
	return depth + 1
}

func readSize(p api.Part) int {
	size := 1
	for _, own := range p.L {
		size += readSize(own)
	}
	return size
}

func readNames(p api.Part) []string {
	var l []string
	if p.Kind == 11 {
		l = []string{p.S}
	}
	for _, own := range p.L {
		l = append(l, readNames(own)...)
	}
	return l
}

func readFree(p api.Part) []string {
	if !isExp(p) && !isCase(p) && !isBind(p) && !isDecl(p) {
		return nil
	}
	return without(used(p), nil)
}

// used are the names that a part uses and does not bind, each as often as it does: what its parts use, without what it binds there.
func used(p api.Part) []string {
	switch p.Kind {
	case 24:
		return []string{p.S}
	case 27, 45:
		return without(used(p.L[1]), readNames(p.L[0]))
	case 29:
		return append(used(p.L[1]), without(used(p.L[2]), readNames(p.L[0]))...)
	}
	var l, bound []string
	for _, own := range p.L {
		l = append(l, used(own)...)
		if own.Kind == 46 && (p.Kind == 30 || p.Kind == 53) {
			bound = append(bound, own.S)
		}
	}
	return without(l, bound)
}

// without are the texts of l that are not of m, in order, each once.
func without(l, m []string) []string {
	l = slices.DeleteFunc(slices.Clone(l), func(s string) bool { return slices.Contains(m, s) })
	slices.Sort(l)
	return slices.Compact(l)
}
