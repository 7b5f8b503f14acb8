package tree

import (
	"maps"
	"slices"

	"gimlet/api"
)

// Free returns the names that a valid part uses and does not bind, in the order of texts.
func Free(p api.Part) []string {
	if !valid([]api.Part{p}, anExp|aCase|aBind|aDecl) {
		return nil
	}
	u := uses{bound: map[string]int{}, free: map[string]struct{}{}}
	u.visit(p)
	return slices.Sorted(maps.Keys(u.free))
}

// uses is what is known of the names on the way through a part: how many of the parts that are open bind each, and which are used where none does.
type uses struct {
	bound map[string]int
	free  map[string]struct{}
}

func (u uses) visit(p api.Part) {
	if p.Kind == api.ExpVar && u.bound[p.S] == 0 {
		u.free[p.S] = struct{}{}
	}
	names, from := binds(p)
	for _, own := range p.L[:from] {
		u.visit(own)
	}
	u.open(names, 1)
	for _, own := range p.L[from:] {
		u.visit(own)
	}
	u.open(names, -1)
}

// open binds names once more, or, if by is -1, once less.
func (u uses) open(names []string, by int) {
	for _, name := range names {
		u.bound[name] += by
	}
}

// binds returns the names that a valid part binds in its own parts, and the first one of these where it does.
func binds(p api.Part) ([]string, int) {
	switch p.Kind {
	case api.ExpFun, api.PartCase:
		return Names(p.L[0]), 1
	case api.ExpLet:
		return Names(p.L[0]), 2
	case api.ExpRec, api.DeclRec:
		return bindNames(p.L), 0
	}
	return nil, 0
}

func bindNames(l []api.Part) []string {
	var names []string
	for _, p := range l {
		if p.Kind == api.PartBind {
			names = append(names, p.S)
		}
	}
	return names
}
