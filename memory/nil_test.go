package memory

import (
	"math"
	"slices"
	"testing"

	"gimlet/api"
)

// invalid are memories that New did not return: none, one that nobody filled, and a copy of one that New returned.
func invalid(m *Memory) map[string]*Memory {
	whole := *m
	inner := &struct{ m Memory }{*m}
	return map[string]*Memory{
		"nil":                nil,
		"new":                new(Memory),
		"a literal":          {},
		"a copy":             &whole,
		"a copy in a struct": &inner.m,
	}
}

// Rule 5: every function of an invalid memory returns ErrNil, ahead of any other error, whatever else it is given.
func TestInvalid(t *testing.T) {
	good, r := filled(t, api.Limits{Min: 1, Max: 3, Capped: true})
	places := []uint32{0, 1, 65532, 65533, 65535, 65536, 65537, 1 << 31, math.MaxUint32}
	ops := slices.Concat(numbers(loads()), numbers(stores()), []int{-1, 0, api.OpAdd, api.OpSize, 1 << 20})
	for what, m := range invalid(good) {
		if n := m.Pages(); n != 0 {
			t.Errorf("%s: Pages() = %d", what, n)
		}
		for _, n := range []uint32{0, 1, 2, 3, 65536, 65537, math.MaxUint32} {
			if got, e := m.Grow(n); got != 0 || e != api.ErrNil {
				t.Errorf("%s: Grow(%d) = %d, %v", what, n, got, e)
			}
		}
		for _, at := range places {
			for _, op := range ops {
				for _, offset := range []uint32{0, 1, math.MaxUint32} {
					if v, e := m.Load(op, at, offset); v != 0 || e != api.ErrNil {
						t.Errorf("%s: Load(%d, %d, %d) = %d, %v", what, op, at, offset, v, e)
					}
					if e := m.Store(op, at, offset, math.MaxUint32); e != api.ErrNil {
						t.Errorf("%s: Store(%d, %d, %d) = %v", what, op, at, offset, e)
					}
				}
			}
			for _, n := range []uint32{0, 1, 65536, 65537, 1<<20 + 1, math.MaxUint32} {
				if b, e := m.Read(at, n); len(b) != 0 || e != api.ErrNil {
					t.Errorf("%s: Read(%d, %d) = %d bytes, %v", what, at, n, len(b), e)
				}
			}
			for _, n := range []int{0, 1, 65537} {
				if e := m.Write(at, make([]byte, n)); e != api.ErrNil {
					t.Errorf("%s: Write(%d, %d bytes) = %v", what, at, n, e)
				}
			}
		}
		if n := m.Pages(); n != 0 {
			t.Errorf("%s: Pages() = %d then", what, n)
		}
		sameAs(t, "what was copied", good, r)
	}
}
