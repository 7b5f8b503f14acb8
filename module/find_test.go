package module

import (
	"math"
	"reflect"
	"slices"
	"testing"

	"gimlet/api"
)

// readType is P7.2 of TypeOf, said another way: the numbers of types in one list.
func readType(m api.Module, n uint32) (api.FuncType, bool) {
	var numbers []int
	for _, i := range m.Imports {
		numbers = append(numbers, i.Type)
	}
	for _, f := range m.Funcs {
		numbers = append(numbers, f.Type)
	}
	for at, number := range numbers {
		if int64(at) != int64(n) {
			continue
		}
		for k, x := range m.Types {
			if k == number {
				return x, true
			}
		}
	}
	return api.FuncType{}, false
}

func checkTypeOf(t *testing.T, m api.Module, n uint32, want api.FuncType, is bool) {
	t.Helper()
	if x, got := TypeOf(m, n); x != want || got != is {
		t.Errorf("TypeOf(%d) = %v, %v; want %v, %v", n, x, got, want, is)
	}
}

// The chapter's example, and what lies around the ends of the lists.
func TestTypeOfExamples(t *testing.T) {
	none, no := api.FuncType{}, false
	one, two := api.FuncType{Results: 1}, api.FuncType{Params: 2}
	m := api.Module{Types: []api.FuncType{one, two}, Imports: []api.Import{{Type: 1}}, Funcs: []api.Func{{Type: 0}}}
	checkTypeOf(t, m, 0, two, true)
	checkTypeOf(t, m, 1, one, true)
	checkTypeOf(t, m, 2, none, no)
	m.Imports = []api.Import{{Type: 1}, {Type: 2}, {Type: 0}}
	m.Funcs = []api.Func{{Type: 1}, {Type: -1}, {Type: 2}, {Type: 1}}
	for n, want := range []api.FuncType{two, none, one, two, none, none, two, none} {
		checkTypeOf(t, m, uint32(n), want, want != none)
	}
	for _, n := range []uint32{8, 9, 255, 256, 1 << 16, 1<<31 - 1, 1 << 31, 1<<31 + 1, math.MaxUint32 - 2, math.MaxUint32} {
		checkTypeOf(t, m, n, none, no)
		checkTypeOf(t, api.Module{Types: m.Types}, n, none, no)
	}
	// A type that there is, of no words, is not one that there is not.
	m.Types = []api.FuncType{{}}
	checkTypeOf(t, m, 2, none, true)
	checkTypeOf(t, m, 0, none, no)
	for _, number := range []int{-1, 1, 2, math.MinInt, math.MaxInt, math.MaxInt32, math.MinInt32, 1 << 32, 1 << 16, 1 << 8} {
		m.Imports[0].Type, m.Funcs[0].Type = number, number
		checkTypeOf(t, m, 0, none, no)
		checkTypeOf(t, m, 3, none, no)
	}
}

// numberLists calls f with all lists of up to most numbers from -1 to 2.
func numberLists(most int, f func([]int)) {
	var grow func([]int)
	grow = func(l []int) {
		f(l)
		if len(l) == most {
			return
		}
		for n := -1; n < 3; n++ {
			grow(append(slices.Clone(l), n))
		}
	}
	grow(nil)
}

// P7.2, of all small modules.
func TestTypeOfEvery(t *testing.T) {
	all := []api.FuncType{{}, {Params: 300, Results: -1}, {Params: 3}}
	numberLists(2, func(imports []int) {
		numberLists(3, func(funcs []int) {
			m := api.Module{}
			for _, n := range imports {
				m.Imports = append(m.Imports, api.Import{Type: n})
			}
			for _, n := range funcs {
				m.Funcs = append(m.Funcs, api.Func{Type: n})
			}
			for k := range 4 {
				m.Types = all[:k]
				for n := range uint32(8) {
					want, is := readType(m, n)
					checkTypeOf(t, m, n, want, is)
				}
			}
		})
	})
}

// As many functions as may be.
func TestTypeOfFull(t *testing.T) {
	m := full()
	for k := range m.Types {
		m.Types[k] = api.FuncType{Params: k}
		m.Imports[k].Type, m.Funcs[k].Type = k, api.MaxItems-1-k
	}
	for _, k := range []int{0, 1, 8191, api.MaxItems - 1} {
		checkTypeOf(t, m, uint32(k), api.FuncType{Params: k}, true)
		checkTypeOf(t, m, uint32(2*api.MaxItems-1-k), api.FuncType{Params: k}, true)
	}
	checkTypeOf(t, m, 2*api.MaxItems, api.FuncType{}, false)
}

func checkFind(t *testing.T, l []api.Export, name string, kind int, want uint32, is bool) {
	t.Helper()
	if n, got := Find(api.Module{Exports: l}, name, kind); n != want || got != is {
		t.Errorf("Find(%v, %q, %d) = %d, %v; want %d, %v", l, name, kind, n, got, want, is)
	}
}

func TestFindExamples(t *testing.T) {
	l := []api.Export{{Name: "f", Kind: 1, Index: 3}, {Name: "f", Index: 1}, {Name: "f", Index: 7}, {Name: "", Kind: 3, Index: math.MaxUint32}, {Name: "m", Kind: 2, Index: 0}, {Name: "\xff", Kind: 9, Index: 5}, {Name: "f", Kind: 1, Index: 4}}
	checkFind(t, l, "f", 0, 1, true)
	checkFind(t, l, "f", 1, 3, true)
	checkFind(t, l, "f", 2, 0, false)
	checkFind(t, l, "f", 3, 0, false)
	checkFind(t, l, "f", -1, 0, false)
	checkFind(t, l, "f", 1<<32, 0, false)
	checkFind(t, l, "g", 0, 0, false)
	checkFind(t, l, "F", 0, 0, false)
	checkFind(t, l, "ff", 0, 0, false)
	checkFind(t, l, "", 3, math.MaxUint32, true)
	checkFind(t, l, "", 0, 0, false)
	checkFind(t, l, "m", 2, 0, true)
	checkFind(t, l, "m", 0, 0, false)
	checkFind(t, l, "\xff", 9, 5, true)
	checkFind(t, nil, "", 0, 0, false)
	checkFind(t, nil, "f", 1, 0, false)
}

// P7.2, of all lists of up to three exports: from the back, each one that fits takes the place of the one behind it.
func TestFindEvery(t *testing.T) {
	names := []string{"", "a", "ab"}
	var grow func([]api.Export)
	grow = func(l []api.Export) {
		for _, name := range names {
			for kind := range 3 {
				want, is := uint32(0), false
				for _, e := range slices.Backward(l) {
					if e.Name+string(rune('0'+e.Kind)) == name+string(rune('0'+kind)) {
						want, is = e.Index, true
					}
				}
				checkFind(t, l, name, kind, want, is)
			}
		}
		if len(l) == 3 {
			return
		}
		for _, name := range names {
			for kind := range 3 {
				grow(append(slices.Clone(l), api.Export{Name: name, Kind: kind, Index: uint32(10 + len(l))}))
			}
		}
	}
	grow(nil)
}

func checkSize(t *testing.T, m api.Module, want int) {
	t.Helper()
	if n := Size(m); n != want {
		t.Errorf("Size = %d, want %d", n, want)
	}
}

// P7.2: instructions of each list that has some, and in lists within lists.
func TestSize(t *testing.T) {
	checkSize(t, api.Module{}, 0)
	checkSize(t, bare(), 0)
	checkSize(t, deeper(0), 4)
	checkSize(t, deeper(9), 40)
	checkSize(t, deeper(65535), 4*65536)
	checkSize(t, api.Module{Funcs: []api.Func{{Code: api.Code{L: nops(2)}}}}, 2)
	checkSize(t, api.Module{Globals: []api.Global{{Init: nops(3)}}}, 3)
	checkSize(t, api.Module{Elems: []api.Elem{{Offset: nops(4), Funcs: []uint32{1}}}}, 4)
	checkSize(t, api.Module{Datas: []api.Data{{Offset: nops(5), Bytes: []byte{1}}}}, 5)
	checkSize(t, api.Module{Globals: make([]api.Global, 9), Exports: make([]api.Export, 9), Types: make([]api.FuncType, 3)}, 0)
	both := []api.Instr{{Op: api.OpIf, L: nest(2), E: nest(3)}, {Op: api.OpNop, L: nops(1)}}
	checkSize(t, api.Module{Globals: []api.Global{{Init: both}}, Datas: []api.Data{{Offset: both}, {}, {Offset: nops(1)}}}, 2*(1+3+4+2)+1)
	checkSize(t, api.Module{Funcs: slices.Repeat([]api.Func{{Code: api.Code{L: nops(100)}}}, 1000), Globals: slices.Repeat([]api.Global{{Init: nops(1)}}, 1000)}, 101000)
	checkSize(t, api.Module{Funcs: []api.Func{{Code: api.Code{L: nops(api.MaxCode + 1)}}}}, api.MaxCode+1)
}

// Size is the number of api.Instrs, wherever they stand.
func TestSizeEvery(t *testing.T) {
	for _, m := range []api.Module{sample(), shared(), deeper(6)} {
		n := 0
		visitModule(&m, func(_ string, v reflect.Value) {
			if v.Type() == reflect.TypeFor[api.Instr]() {
				n++
			}
		})
		if n < 20 {
			t.Errorf("there are %d", n)
		}
		checkSize(t, m, n)
		checkSize(t, Copy(m), n)
	}
}
