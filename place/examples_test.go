package place

import (
	"testing"

	"gimlet/api"
)

// The chapter's examples.
func TestExamples(t *testing.T) {
	p := must(t, tabled(3, elem(1, 0, 0)))
	noEntry(t, p, 0, api.OK)
	entryAs(t, p, 1, 0)
	noEntry(t, p, 3, api.ErrBounds)
	newAs(t, "the element at 2", tabled(3, elem(2, 0, 0)), api.ErrBounds)

	newAs(t, "two bytes", paged(1, data(65535, 1, 2)), api.ErrBounds)
	newAs(t, "one byte", paged(1, data(65535, 1)), api.OK)

	m := api.Module{Types: types(), Imports: []api.Import{getc()}}
	hostAs(t, must(t, m), 0, api.HostGet)
	m.Types = []api.FuncType{typeGet: {Params: 1}}
	newAs(t, "getc of a word to nothing", m, api.ErrImport)

	p = must(t, api.Module{Globals: []api.Global{{Mut: true, Init: number(7)}}})
	globalAs(t, p, 0, 7, api.OK)
	setAs(t, p, 0, 9, api.OK)
	globalAs(t, p, 0, 9, api.OK)
	globalAs(t, p, 1, 0, api.ErrMissing)
}
