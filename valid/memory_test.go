package valid

import (
	"reflect"
	"slices"
	"testing"

	"gimlet/api"
)

func sameInstr(a, b api.Instr) bool { return reflect.DeepEqual(a, b) }

// roomy copies what it is given, and puts behind each list in it two more items, which do not belong to it; it returns the lists with those items too.
func roomy[T any](x T) (T, []any) {
	var whole []any
	var grow func(reflect.Value) reflect.Value
	grow = func(v reflect.Value) reflect.Value {
		out := reflect.New(v.Type()).Elem()
		switch v.Kind() {
		case reflect.Slice:
			n := v.Len()
			room := reflect.MakeSlice(v.Type(), n+2, n+2)
			for k := range n {
				room.Index(k).Set(grow(v.Index(k)))
			}
			for k := n; k < n+2; k++ {
				room.Index(k).Set(spare(v.Type().Elem()))
			}
			whole = append(whole, room.Interface())
			out.Set(room.Slice(0, n))
		case reflect.Struct:
			for k := range v.NumField() {
				out.Field(k).Set(grow(v.Field(k)))
			}
		default:
			out.Set(v)
		}
		return out
	}
	return grow(reflect.ValueOf(x)).Interface().(T), whole
}

// spare is an item that no module may have.
func spare(t reflect.Type) reflect.Value {
	switch t {
	case reflect.TypeFor[api.Instr]():
		return reflect.ValueOf(api.Instr{Op: 5, A: 9})
	case reflect.TypeFor[api.FuncType]():
		return reflect.ValueOf(api.FuncType{Params: -9})
	case reflect.TypeFor[api.Export]():
		return reflect.ValueOf(api.Export{Kind: 9, Index: 9})
	case reflect.TypeFor[uint32]():
		return reflect.ValueOf(uint32(1<<32 - 9))
	}
	return reflect.Zero(t)
}

// Rules 4 and 7: what is handed in stays as it was, with the room behind each of its lists, which is not looked at either.
func TestLeftAlone(t *testing.T) {
	d := dice(5)
	all := []api.Module{{}, rich(), several(), fn(1, with(api.OpGet, 5)), fn(0, block(1, word(1), word(2)))}
	for range 200 {
		m := made(&d)
		all = append(all, m, spoilt(m, &d))
	}
	for _, plain := range all {
		m, whole := roomy(plain)
		before := cloned(whole)
		if got, want := Check(m), Check(plain); got != want {
			t.Errorf("Check looks at what is behind a list: %+v, %+v", got, want)
		}
		for n := -1; n <= len(m.Funcs); n++ {
			e, at := Body(m, n)
			if want, there := Body(plain, n); e != want || at != there {
				t.Errorf("Body looks at what is behind a list: %v, %d; %v, %d", e, at, want, there)
			}
		}
		for _, g := range m.Globals {
			Const(g.Init)
		}
		if !slices.EqualFunc(whole, before, func(a, b any) bool { return reflect.DeepEqual(a, b) }) {
			t.Errorf("a module was changed: %+v", plain)
		}
	}
}

// What is answered hangs on what is handed in alone: not on calls before, and not on others at the same time.
func TestAgain(t *testing.T) {
	d := dice(6)
	var all []api.Module
	for range 30 {
		m := made(&d)
		all = append(all, m, spoilt(m, &d))
	}
	var first []api.Wrong
	for _, m := range all {
		first = append(first, Check(m))
	}
	done := make(chan []api.Wrong)
	for range 4 {
		go func() {
			var again []api.Wrong
			for _, m := range slices.Backward(all) {
				again = append(again, Check(m))
			}
			slices.Reverse(again)
			done <- again
		}()
	}
	for range 4 {
		if again := <-done; !slices.Equal(again, first) {
			t.Errorf("Check answers %v, then %v", first, again)
		}
	}
}
