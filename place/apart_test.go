package place

import (
	"reflect"
	"strconv"
	"sync"
	"testing"

	"gimlet/api"
	"gimlet/module"
)

// roomy is the sample with room behind each of its lists, filled with something.
func roomy() api.Module {
	m := sample()
	v := reflect.ValueOf(&m).Elem()
	visit(v, func(l reflect.Value) {
		n := l.Len()
		if n == 0 {
			return
		}
		wide := reflect.MakeSlice(l.Type(), n, n+3)
		reflect.Copy(wide, l)
		full := wide.Slice(0, n+3)
		for k := range 3 {
			full.Index(n + k).Set(deepClone(l.Index(0)))
		}
		l.Set(wide)
	})
	return m
}

// visit calls f with each list in a value, one that has others ahead of these.
func visit(v reflect.Value, f func(reflect.Value)) {
	switch v.Kind() {
	case reflect.Slice:
		f(v)
		for k := range v.Len() {
			visit(v.Index(k), f)
		}
	case reflect.Struct:
		for k := range v.NumField() {
			visit(v.Field(k), f)
		}
	}
}

// ruin makes everything in a module something else, with the room behind its lists.
func ruin(m *api.Module) {
	visit(reflect.ValueOf(m).Elem(), func(l reflect.Value) {
		full := l.Slice(0, l.Cap())
		for k := range full.Len() {
			ruinValue(full.Index(k))
		}
	})
}

// ruinValue leaves lists to visit, which finds those within them too.
func ruinValue(v reflect.Value) {
	switch v.Kind() {
	case reflect.Struct:
		for k := range v.NumField() {
			ruinValue(v.Field(k))
		}
	case reflect.Int, reflect.Int32:
		v.SetInt(v.Int() ^ 1)
	case reflect.Uint8, reflect.Uint32:
		v.SetUint(v.Uint() ^ 1)
	case reflect.String:
		v.SetString(v.String() + "x")
	case reflect.Bool:
		v.SetBool(!v.Bool())
	}
}

// whole is a module with the room behind each of its lists, as lists.
func whole(m api.Module) []any {
	var all []any
	visit(reflect.ValueOf(&m).Elem(), func(l reflect.Value) {
		all = append(all, deepClone(l.Slice(0, l.Cap())).Interface())
	})
	return all
}

func checkWhole(t *testing.T, what string, m api.Module, before []any) {
	t.Helper()
	if !reflect.DeepEqual(whole(m), before) {
		t.Errorf("%s: the module was changed", what)
	}
}

// Rule 4: what New is given is neither changed nor kept; nor is it, with the room behind its lists, when the place is used.
func TestArgumentApart(t *testing.T) {
	m := roomy()
	before := whole(m)
	p := must(t, m)
	checkWhole(t, "New", m, before)
	for n := range uint32(3) {
		p.SetGlobal(n, 77)
	}
	for at := range uint32(131072) {
		p.Memory().Store(api.OpStore8, at, 0, 0xee)
	}
	got := p.Module()
	ruin(&got)
	checkWhole(t, "use", m, before)

	r, _ := read(sample())
	p = must(t, m)
	ruin(&m)
	if module.Same(m, r.m) {
		t.Fatal("nothing was changed")
	}
	sameAs(t, "the module was changed", p, r)
}

// Rule 4: nothing is changed by New where it is refused.
func TestRefusedApart(t *testing.T) {
	for _, all := range [][]fault{invalids(), unhad(), beyond()} {
		for _, f := range all {
			m := roomy()
			f.do(&m)
			before := whole(m)
			if _, e := New(m); e == api.OK {
				t.Errorf("%s: OK", f.what)
			}
			checkWhole(t, f.what, m, before)
		}
	}
}

// Rule 4: what Module returns is new memory each time: it may be changed, with the room behind its lists.
func TestModuleApart(t *testing.T) {
	p := must(t, sample())
	r, _ := read(sample())
	one, other := p.Module(), p.Module()
	ruin(&one)
	if module.Same(one, r.m) || !module.Same(other, r.m) {
		t.Error("what was returned twice is one")
	}
	sameAs(t, "what was returned was changed", p, r)
	// The module stays what it was, whatever is done to its place.
	p.SetGlobal(0, 1000)
	p.Memory().Grow(1)
	p.Memory().Write(0, []byte{9, 9, 9, 9, 9, 9, 9, 9, 9, 9, 9, 9})
	if !module.Same(p.Module(), r.m) {
		t.Error("the module changes with its place")
	}
}

// P13.4: two places of one module share nothing.
func TestTwoPlaces(t *testing.T) {
	m := sample()
	one, other := must(t, m), must(t, m)
	third := must(t, one.Module())
	if one.Memory() == other.Memory() || one.Memory() == third.Memory() {
		t.Error("one memory")
	}
	r, _ := read(m)
	for _, n := range []uint32{0, 2} {
		setAs(t, one, n, 1234, api.OK)
	}
	one.Memory().Write(0, make([]byte, 131072))
	one.Memory().Grow(1)
	sameAs(t, "the other place", other, r)
	sameAs(t, "a place of what Module returned", third, r)
	globalAs(t, one, 0, 1234, api.OK)
	setAs(t, other, 0, 5, api.OK)
	globalAs(t, one, 0, 1234, api.OK)
	globalAs(t, third, 0, 7, api.OK)
}

// Places of one module, made and used at the same time.
func TestAtOnce(t *testing.T) {
	m := sample()
	r, _ := read(m)
	places := make([]*Place, 8)
	var all sync.WaitGroup
	for n := range places {
		all.Go(func() {
			p, e := New(m)
			if e != api.OK {
				t.Error(e)
				return
			}
			places[n] = p
			for k := range uint32(500) {
				p.SetGlobal(0, k)
				p.Memory().Store(api.OpStore, 4*k, 0, k)
				if v, e := p.Global(0); v != k || e != api.OK {
					t.Error("place " + strconv.Itoa(n) + ": " + strconv.Itoa(int(v)))
				}
				p.Entry(k)
				p.Host(k)
			}
			p.SetGlobal(0, 7)
			p.Memory().Write(0, r.bytes)
		})
	}
	all.Wait()
	for _, p := range places {
		sameAs(t, "a place of several", p, r)
	}
}
