package module

import (
	"reflect"
	"slices"
	"testing"

	"gimlet/api"
)

// shared is a module whose lists are pieces of one another, with room to spare that is filled.
func shared() api.Module {
	m := sample()
	l := append(sampleList(1), sampleList(2)...)
	l[1].E = l[1].L
	m.Funcs[0].Code.L, m.Funcs[1].Code.L, m.Globals[0].Init = l[:4], l[2:6], l
	m.Elems[0].Offset, m.Datas[0].Offset, m.Datas[1].Offset = l[:1], l[4:], l[:0]
	places := []uint32{1, 2, 3, 4}
	m.Elems[0].Funcs, m.Elems[1].Funcs, l[2].Tags = places[:2], places[1:], places[:1]
	bytes := []byte("shared")
	m.Datas[0].Bytes, m.Datas[1].Bytes = bytes[:0], bytes[:3]
	limits := []api.Limits{{Min: 1}, {Min: 2}}
	m.Tables, m.Memories = limits[:1], limits[:1]
	return m
}

func copied() []api.Module {
	return []api.Module{{}, bare(), sample(), deeper(4), shared(), {Started: true}, {Start: 1}, {Types: []api.FuncType{}, Datas: []api.Data{{Bytes: []byte{}}}}}
}

// P7.3: a copy is equal, down to its nil lists, and in memory of its own.
func TestCopy(t *testing.T) {
	for k, m := range copied() {
		before := cloned(m)
		c := Copy(m)
		if !reflect.DeepEqual(m, before) {
			t.Fatalf("%d: Copy has changed what it was given", k)
		}
		if !reflect.DeepEqual(c, m) || !Same(c, m) {
			t.Fatalf("%d: Copy = %v, want %v", k, c, m)
		}
		checkApart(t, &c, &m)
		again := Copy(c)
		checkApart(t, &again, &c, &m)
		checkSame(t, "a copy of a copy", again, before, true)
	}
}

// overwrite changes each value and each list of a module, and what these have to spare, while f looks on.
func overwrite(m *api.Module, f func(path string)) {
	visitModule(m, func(path string, v reflect.Value) {
		if v.Kind() == reflect.Slice && v.Cap() > v.Len() {
			spare := v.Slice(v.Len(), v.Cap())
			for k := range spare.Len() {
				spare.Index(k).SetZero()
			}
			f(path + " (to spare)")
		}
		if others := otherValues(v); len(others) > 0 {
			before := reflect.ValueOf(v.Interface())
			v.Set(others[0])
			f(path)
			v.Set(before)
		}
	})
	// From the back, so that what stands in an item is gone ahead of it.
	var all []reflect.Value
	visitModule(m, func(_ string, v reflect.Value) { all = append(all, v) })
	for _, v := range slices.Backward(all) {
		if v.Kind() != reflect.Struct && v.Kind() != reflect.Slice {
			v.Set(otherValues(v)[0])
		}
		if v.Kind() == reflect.Slice {
			for k := range v.Len() {
				v.Index(k).SetZero()
			}
		}
		f("all from the back")
	}
}

// P7.3: a copy stays as it was, whatever is done to the module, and the other way round.
func TestCopyStays(t *testing.T) {
	for _, m := range copied() {
		before := cloned(m)
		c := Copy(m)
		overwrite(&m, func(path string) {
			if !reflect.DeepEqual(c, before) {
				t.Fatalf("%s of the module was changed, and of its copy", path)
			}
		})
	}
	for _, m := range copied() {
		before := cloned(m)
		c := Copy(m)
		overwrite(&c, func(path string) {
			if !reflect.DeepEqual(m, before) {
				t.Fatalf("%s of the copy was changed, and of its module", path)
			}
		})
	}
}

// Items that are added to the one are not in the other: neither has room that the other one sees.
func TestCopyAppend(t *testing.T) {
	m := sample()
	m.Types = append(m.Types, api.FuncType{Params: 4}, api.FuncType{Params: 5})
	spare := m.Types[3:5]
	m.Types = m.Types[:3]
	c := Copy(m)
	c.Types = append(c.Types, api.FuncType{Params: 6})
	m.Types = append(m.Types, api.FuncType{Params: 7})
	if c.Types[3].Params != 6 || m.Types[3].Params != 7 || spare[0].Params != 7 || spare[1].Params != 5 {
		t.Errorf("%v, %v, %v", c.Types, m.Types, spare)
	}
	if room := c.Types[:cap(c.Types)]; slices.Contains(room, api.FuncType{Params: 5}) {
		t.Errorf("a copy returns what a list has to spare: %v", room)
	}
}

func TestCopyGreat(t *testing.T) {
	for _, n := range []int{900, 65534} {
		m := deeper(n)
		c := Copy(m)
		checkSame(t, "nested", c, m, true)
		m.Funcs[0].Code.L[0].L, m.Funcs[0].Code.L[0].E = m.Funcs[0].Code.L[0].E, m.Funcs[0].Code.L[0].L
		checkSame(t, "turned", c, m, false)
	}
	m := full()
	checkSame(t, "full", Copy(m), m, true)
}
