package memory

import (
	"testing"

	"gimlet/api"
)

// The chapter's examples, one after the other, of one memory.
func TestExamples(t *testing.T) {
	m := must(t, api.Limits{Min: 1, Max: 2, Capped: true})
	storesAs(t, m, api.OpStore, 8, 0, 1<<32-2, api.OK)
	reads(t, "stored", m, 7, 0, 254, 255, 255, 255, 0)

	loadsAs(t, m, api.OpLoad8S, 8, 0, 1<<32-2, api.OK)
	loadsAs(t, m, api.OpLoad8U, 8, 0, 254, api.OK)
	loadsAs(t, m, api.OpLoad16U, 7, 0, 65024, api.OK)

	loadsAs(t, m, api.OpLoad, 65533, 0, 0, api.ErrBounds)
	loadsAs(t, m, api.OpLoad, 65532, 0, 0, api.OK)
	loadsAs(t, m, api.OpLoad, 1<<32-1, 1<<32-1, 0, api.ErrBounds)

	grows(t, m, 1, 1, 2)
	grows(t, m, 1, 1<<32-1, 2)
	loadsAs(t, m, api.OpLoad, 65533, 0, 0, api.OK)

	if b, e := m.Read(131072, 0); len(b) != 0 || e != api.OK {
		t.Errorf("Read(131072, 0) = %v, %v", b, e)
	}
	if b, e := m.Read(131073, 0); len(b) != 0 || e != api.ErrBounds {
		t.Errorf("Read(131073, 0) = %v, %v", b, e)
	}
	loadsAs(t, m, api.OpStore, 0, 0, 0, api.ErrArg)
}
