package place

import (
	"math"
	"testing"

	"gimlet/api"
	"gimlet/module"
)

// invalid are places that New did not return: none, one that nobody filled, and a copy of one that New returned.
func invalid(p *Place) map[string]*Place {
	whole := *p
	inner := &struct{ p Place }{*p}
	return map[string]*Place{
		"nil":                nil,
		"new":                new(Place),
		"a literal":          {},
		"a copy":             &whole,
		"a copy in a struct": &inner.p,
	}
}

// Rule 5: a method of an invalid place returns ErrNil, ahead of any other error, or zero values.
func TestInvalid(t *testing.T) {
	good := must(t, sample())
	r, _ := read(sample())
	for what, p := range invalid(good) {
		if m := p.Module(); !module.Same(m, api.Module{}) {
			t.Errorf("%s: Module() = %+v", what, m)
		}
		if mem := p.Memory(); mem != nil {
			t.Errorf("%s: Memory() = %v", what, mem)
		}
		if n := p.Size(); n != 0 {
			t.Errorf("%s: Size() = %d", what, n)
		}
		for _, n := range []uint32{0, 1, 2, 3, 5, 6, 7, 100, 1 << 31, math.MaxUint32} {
			hostAs(t, p, n, 0)
			noEntry(t, p, n, api.ErrNil)
			globalAs(t, p, n, 0, api.ErrNil)
			setAs(t, p, n, 99, api.ErrNil)
		}
		if t.Failed() {
			t.Fatal(what)
		}
		sameAs(t, "what was copied", good, r)
	}
}
