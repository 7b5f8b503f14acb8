package valid

import (
	"cmp"
	"testing"

	"gimlet/api"
	"gimlet/module"
)

// change puts one thing that is wrong behind what a module has, and returns what Check tells of it alone.
type change func(m *api.Module) api.Wrong

// inOrder are the changes in the order in which P11.2 names their errors.
func inOrder() []change {
	exported := func(m *api.Module, e api.Errno, x api.Export) api.Wrong {
		m.Exports = append(m.Exports, x)
		return api.Wrong{Err: e, Section: 7, Item: len(m.Exports) - 1}
	}
	started := func(m *api.Module, e api.Errno, n uint32) api.Wrong {
		m.Started, m.Start = true, n
		return api.Wrong{Err: e, Section: 8}
	}
	element := func(m *api.Module, e api.Errno, x api.Elem) api.Wrong {
		m.Elems = append(m.Elems, x)
		return api.Wrong{Err: e, Section: 9, Item: len(m.Elems) - 1}
	}
	return []change{
		func(m *api.Module) api.Wrong {
			m.Tables = append(m.Tables, make([]api.Limits, 2)...)
			return api.Wrong{Err: api.ErrMany}
		},
		func(m *api.Module) api.Wrong {
			m.Types = append(m.Types, api.FuncType{Results: 2})
			return api.Wrong{Err: api.ErrArg}
		},
		func(m *api.Module) api.Wrong {
			m.Imports = append(m.Imports, api.Import{Type: 99})
			return api.Wrong{Err: api.ErrMissing, Section: 2, Item: len(m.Imports) - 1}
		},
		func(m *api.Module) api.Wrong {
			m.Funcs = append(m.Funcs, api.Func{Type: 99})
			return api.Wrong{Err: api.ErrMissing, Section: 3, Item: len(m.Funcs) - 1}
		},
		func(m *api.Module) api.Wrong {
			m.Globals = append(m.Globals, api.Global{})
			return api.Wrong{Err: api.ErrConst, Section: 6, Item: len(m.Globals) - 1}
		},
		func(m *api.Module) api.Wrong { return exported(m, api.ErrMissing, api.Export{Name: "z", Index: 99}) },
		func(m *api.Module) api.Wrong { return exported(m, api.ErrThere, api.Export{Name: "f"}) },
		func(m *api.Module) api.Wrong { return started(m, api.ErrMissing, 99) },
		func(m *api.Module) api.Wrong { return started(m, api.ErrShape, 0) },
		func(m *api.Module) api.Wrong {
			m.Tables = nil
			return api.Wrong{Err: api.ErrMissing, Section: 9}
		},
		func(m *api.Module) api.Wrong { return element(m, api.ErrConst, api.Elem{}) },
		func(m *api.Module) api.Wrong {
			return element(m, api.ErrMissing, api.Elem{Offset: words(1), Funcs: []uint32{99}})
		},
		func(m *api.Module) api.Wrong {
			m.Funcs = append(m.Funcs, api.Func{Code: api.Code{L: list(op(api.OpNop), op(api.OpDrop))}})
			return api.Wrong{Err: api.ErrUnder, Section: 10, Item: len(m.Funcs) - 1, At: 2}
		},
		func(m *api.Module) api.Wrong {
			m.Memories = nil
			return api.Wrong{Err: api.ErrMissing, Section: 11}
		},
		func(m *api.Module) api.Wrong {
			m.Datas = append(m.Datas, api.Data{})
			return api.Wrong{Err: api.ErrConst, Section: 11, Item: len(m.Datas) - 1}
		},
	}
}

// P11.2: each of its errors alone.
func TestOrderAlone(t *testing.T) {
	for _, do := range inOrder() {
		m := several()
		checks(t, "alone", m, api.Wrong{})
		want := do(&m)
		checks(t, "alone", m, want)
	}
}

// ahead returns which of two is told, where they are of different items.
func ahead(a, b api.Wrong) api.Wrong {
	if cmp.Or(a.Section-b.Section, a.Item-b.Item) > 0 {
		return b
	}
	return a
}

// P11.2: each two of them, among them all that are neighbours, whichever was put in first.
func TestOrderPairs(t *testing.T) {
	all := inOrder()
	for j, former := range all {
		for k, latter := range all {
			m := several()
			a := former(&m)
			b := latter(&m)
			if j == k || a.Section == 8 && b.Section == 8 || a.Section == 0 && b.Err == api.ErrMissing && m.Tables == nil {
				// There is one Start, and there is one list of tables.
				continue
			}
			want := ahead(a, b)
			if a.Section == 0 || b.Section == 0 {
				want = api.Wrong{Err: module.Check(m)}
			}
			checks(t, "two", m, want)
		}
	}
}

// P11.2: several errors of one item.
func TestOrderOfOneItem(t *testing.T) {
	m := several()
	m.Exports[1] = api.Export{Name: "f", Index: 99}
	checks(t, "an export", m, api.Wrong{Err: api.ErrMissing, Section: 7, Item: 1})
	m.Exports[1].Index = 0
	checks(t, "an export", m, api.Wrong{Err: api.ErrThere, Section: 7, Item: 1})

	m = several()
	m.Elems[0] = api.Elem{Offset: words(2), Funcs: []uint32{99}}
	checks(t, "an element", m, api.Wrong{Err: api.ErrConst, Section: 9})
	none := m
	none.Tables = nil
	checks(t, "an element", none, api.Wrong{Err: api.ErrMissing, Section: 9})
	m.Elems[0].Offset = words(1)
	checks(t, "an element", m, api.Wrong{Err: api.ErrMissing, Section: 9})

	m = several()
	m.Datas[0].Offset = nil
	checks(t, "data", m, api.Wrong{Err: api.ErrConst, Section: 11})
	m.Memories = nil
	checks(t, "data", m, api.Wrong{Err: api.ErrMissing, Section: 11})

	m = several()
	m.Funcs[1] = api.Func{Type: 99, Code: api.Code{L: list(op(api.OpDrop))}}
	checks(t, "a function", m, api.Wrong{Err: api.ErrMissing, Section: 3, Item: 1})
}

// P11.2: a section's later item comes ahead of a later section's first one; functions are asked for their types ahead of what is asked of exports, and for their instructions behind that.
func TestOrderOfSections(t *testing.T) {
	m := several()
	for _, do := range inOrder()[2:] {
		do(&m)
	}
	checks(t, "all", m, api.Wrong{Err: api.ErrMissing, Section: 2, Item: 3})
	m.Imports = m.Imports[:3]
	checks(t, "all but the import", m, api.Wrong{Err: api.ErrMissing, Section: 3, Item: 3})
	m.Funcs[3].Type = 0
	checks(t, "all but the function's type", m, api.Wrong{Err: api.ErrConst, Section: 6, Item: 2})
	m.Globals = m.Globals[:2]
	checks(t, "all but the global", m, api.Wrong{Err: api.ErrMissing, Section: 7, Item: 3})
	m.Exports[3].Index = 0
	checks(t, "all but the export's index", m, api.Wrong{Err: api.ErrThere, Section: 7, Item: 4})
	m.Exports = m.Exports[:4]
	checks(t, "all but the exports", m, api.Wrong{Err: api.ErrShape, Section: 8})
	m.Start = 2
	m.Funcs[0] = api.Func{Code: api.Code{L: words(1)}}
	m.Started, m.Start = false, 0
	checks(t, "all but the start", m, api.Wrong{Err: api.ErrMissing, Section: 9})
	m.Tables = make([]api.Limits, 1)
	checks(t, "all but the table", m, api.Wrong{Err: api.ErrConst, Section: 9, Item: 3})
	m.Elems[3].Offset = words(1)
	checks(t, "all but the offset", m, api.Wrong{Err: api.ErrMissing, Section: 9, Item: 4})
	m.Elems = m.Elems[:4]
	checks(t, "all but the elements", m, api.Wrong{Err: api.ErrLeft, Section: 10})
	m.Funcs[0].Code.L = nil
	checks(t, "all but the first function", m, api.Wrong{Err: api.ErrUnder, Section: 10, Item: 4, At: 2})
	m.Funcs = m.Funcs[:4]
	checks(t, "all but the functions", m, api.Wrong{Err: api.ErrMissing, Section: 11})
	m.Memories = make([]api.Limits, 1)
	checks(t, "all but the memory", m, api.Wrong{Err: api.ErrConst, Section: 11, Item: 3})
	m.Datas = m.Datas[:3]
	checks(t, "nothing is wrong any more", m, api.Wrong{})
}
