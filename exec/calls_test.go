package exec

import (
	"math"
	"slices"
	"testing"

	"gimlet/api"
)

// P14.2: what Call is given is what the function takes, in order.
func TestCallTakes(t *testing.T) {
	for n := range 6 {
		m := module(typeNone, 0)
		m.Types = append(m.Types, api.FuncType{Params: n, Results: 1})
		args := edges()[3 : 3+n]
		for k, want := range args {
			m.Funcs = nil
			returns(t, "a word that it takes", add(m, 5, 2, get(uint32(k))), 1, want, args...)
		}
		for many := range 8 {
			x := must(t, add(m, 5, 2, word(1)), "")
			want := api.ErrArg
			if many == n {
				want = api.OK
			}
			callAs(t, x, "f", make([]uint32, many), want)
		}
	}
}

// P14.2: as many words as a function may take, and one more or less.
func TestCallTakesMost(t *testing.T) {
	m := module(typeNone, 0)
	m.Types = append(m.Types, api.FuncType{Params: api.MaxParams, Results: 1})
	m.Funcs = nil
	m = add(m, 5, 0, get(0), get(api.MaxParams-1), op(api.OpSub))
	args := make([]uint32, api.MaxParams+1)
	for k := range args {
		args[k] = uint32(k)
	}
	x := must(t, m, "")
	callAs(t, x, "f", args, api.ErrArg)
	callAs(t, x, "f", args[:api.MaxParams-1], api.ErrArg)
	returns(t, "the most", m, 3, 1<<32-(api.MaxParams-1), args[:api.MaxParams]...)
}

// named is a module with exports of all kinds.
func named() api.Module {
	m := leaving(word(5))
	m.Exports = []api.Export{
		{Name: "memory", Kind: api.KindMemory}, {Name: "table", Kind: api.KindTable}, {Name: "global", Kind: api.KindGlobal, Index: theF},
		{Name: "f", Index: theF}, {Name: "", Index: theF}, {Name: "f\x00", Index: theF + 1}, {Name: "g", Index: theF + 1},
	}
	return add(m, typeGet, 0, word(6))
}

// P14.2: a function that is exported with that very name; not what else is.
func TestCallNames(t *testing.T) {
	x := must(t, named(), "")
	for _, name := range []string{"memory", "table", "global", "F", "ff", "f ", " f", "run", "\x00", "\xff", "getc"} {
		for _, args := range [][]uint32{nil, {1}, {1, 2}} {
			callAs(t, x, name, args, api.ErrMissing)
			outcomeAs(t, "refused", x, api.Outcome{})
		}
	}
	steps := 0
	for name, want := range map[string]uint32{"f": 5, "": 5, "f\x00": 6, "g": 6} {
		callAs(t, x, name, []uint32{1}, api.ErrArg)
		callAs(t, x, name, nil, api.OK)
		stepAs(t, x, 9, 1)
		steps++
		outcomeAs(t, name, x, api.Outcome{How: api.Done, Results: []uint32{want}, Steps: steps})
	}
	m := named()
	m.Exports = nil
	callAs(t, must(t, m, ""), "f", nil, api.ErrMissing)
	callAs(t, must(t, api.Module{}, ""), "", nil, api.ErrMissing)
}

// P14.2: a machine that is Going refuses every call, whatever that is, and goes on.
func TestCallGoing(t *testing.T) {
	for _, started := range []bool{true, false} {
		m := add(leaving(word(5), op(api.OpNop)), typeNone, 0, op(api.OpUnreachable))
		if started {
			m.Started, m.Start = true, theF+1
		}
		x := must(t, m, "")
		callAs(t, x, "f", nil, api.OK)
		for n := range 2 {
			for _, name := range []string{"f", "g", "getc", ""} {
				for _, args := range [][]uint32{nil, {1}} {
					callAs(t, x, name, args, api.ErrState)
				}
			}
			startAs(t, x, api.ErrState)
			outcomeAs(t, "refused", x, api.Outcome{How: api.Going, Steps: n})
			stepAs(t, x, 1, 1)
		}
		outcomeAs(t, "the end", x, api.Outcome{How: api.Done, Results: []uint32{5}, Steps: 2})
		callAs(t, x, "f", nil, api.OK)
		startAs(t, x, api.ErrState)
	}
}

// P14.2: functions of the host, called from outside, are at their end at once, without a step.
func TestCallHost(t *testing.T) {
	x := must(t, doing(), "A\x00\xff")
	for n, want := range []uint32{'A', 0, 255, math.MaxUint32, math.MaxUint32} {
		callAs(t, x, "getc", []uint32{0}, api.ErrArg)
		callAs(t, x, "getc", nil, api.OK)
		outcomeAs(t, "getc", x, api.Outcome{How: api.Done, Results: []uint32{want}, Read: min(n+1, 3)})
		stepAs(t, x, 9, 0)
	}
	var out []byte
	for _, v := range []uint32{'A', 0, 255, 256, 0x12345641, math.MaxUint32} {
		callAs(t, x, "putc", nil, api.ErrArg)
		callAs(t, x, "putc", []uint32{v, 0}, api.ErrArg)
		callAs(t, x, "putc", []uint32{v}, api.OK)
		out = append(out, byte(v))
		outcomeAs(t, "putc", x, api.Outcome{How: api.Done, Out: out, Read: 3})
	}
	if string(out) != "A\x00\xff\x00\x41\xff" {
		t.Error(out)
	}
}

// getc and putc, called from the place's functions, by their numbers and through the table: each in its step.
func TestHostWithin(t *testing.T) {
	for _, c := range [][2][]api.Instr{
		{code(calling(theGetc)), code(calling(thePutc))},
		{code(word(2), with(api.OpIndirect, typeGet)), code(word(3), with(api.OpIndirect, typePut))},
	} {
		m := leaving(join(code(word(100)), c[0], c[0], c[1], c[1], code(word(0x1234)), c[1])...)
		for input, want := range map[string]string{"": "\xff\xff\x34", "A": "\xffA\x34", "AB": "BA\x34", "ABC": "BA\x34"} {
			x, o := ran(t, m, input)
			wanted := api.Outcome{How: api.Done, Results: []uint32{100}, Out: []byte(want), Read: min(len(input), 2), Steps: 2 + 2*len(c[0]) + 3*len(c[1])}
			if !same(o, wanted) {
				t.Errorf("%q: %+v; want %+v", input, o, wanted)
			}
			// The next call goes on behind what was read.
			callAs(t, x, "f", nil, api.OK)
			x.Step(9999)
			if o := x.Outcome(); o.Read != min(len(input), 4) || len(o.Out) != 6 {
				t.Errorf("%q, twice: %+v", input, o)
			}
		}
	}
	// Each is done with its step, not ahead of it.
	x := must(t, doing(calling(theGetc), calling(thePutc)), "A")
	callAs(t, x, "f", nil, api.OK)
	outcomeAs(t, "called", x, api.Outcome{How: api.Going})
	stepAs(t, x, 1, 1)
	outcomeAs(t, "read", x, api.Outcome{How: api.Going, Read: 1, Steps: 1})
	stepAs(t, x, 1, 1)
	outcomeAs(t, "written", x, api.Outcome{How: api.Done, Read: 1, Steps: 2, Out: []byte("A")})
}

// All bytes are read, in order, and then none; 2^32 - 1 is no byte.
func TestInput(t *testing.T) {
	input := make([]byte, 256)
	for k := range input {
		input[k] = byte(k + 100)
	}
	x := must(t, doing(loop(0, calling(theGetc), with(api.OpTee, 0), word(math.MaxUint32), op(api.OpNe), either(0, code(get(0), calling(thePutc), br(1)), nil))), string(input))
	callAs(t, x, "f", nil, api.OK)
	x.Step(plenty)
	outcomeAs(t, "copied", x, api.Outcome{How: api.Done, Out: input, Read: 256, Steps: 1 + 256*8 + 5})
}

// P14.2: a function without instructions is at its end at once.
func TestCallNothing(t *testing.T) {
	for _, kind := range []int{typeNone, typePut} {
		m := module(kind, 3)
		if kind == typeNone {
			m.Started, m.Start = true, theF
		}
		x := must(t, m, "")
		for range 2 {
			callAs(t, x, "f", make([]uint32, types()[kind].Params), api.OK)
			outcomeAs(t, "nothing", x, api.Outcome{How: api.Done})
			stepAs(t, x, 9, 0)
		}
		if m.Started {
			x = must(t, m, "")
			startAs(t, x, api.OK)
			outcomeAs(t, "nothing started", x, api.Outcome{How: api.Done})
		}
	}
	// One with a list that has none is not.
	x := must(t, doing(block(0)), "")
	callAs(t, x, "f", nil, api.OK)
	outcomeAs(t, "a block", x, api.Outcome{How: api.Going})
	stepAs(t, x, 9, 1)
	outcomeAs(t, "a block", x, api.Outcome{How: api.Done, Steps: 1})
	// Called from others it costs the call's step; its words are taken, and a word that was there stays.
	m := add(leaving(word(3), word(4), calling(theF+1), word(5), calling(theF+1)), typePut, 9)
	returns(t, "called", m, 5, 3)
	m = add(m, typeNone, 9)
	m.Funcs[0].Code.L = code(calling(theF+2), calling(theF+2), word(9), calling(theF+2))
	returns(t, "called, of no words", m, 4, 9)
}

// P14.2: Start calls the module's Start, exported or not; again after its end; none, where the module has none.
func TestStart(t *testing.T) {
	m := add(leaving(word(5)), typeNone, 1, join(shown(1), code(get(0), word(1), op(api.OpAdd), set(0)))...)
	x := must(t, m, "")
	startAs(t, x, api.ErrMissing)
	outcomeAs(t, "no start", x, api.Outcome{})
	m.Started, m.Start = true, theF+1
	x = must(t, m, "")
	outcomeAs(t, "not by itself", x, api.Outcome{})
	for n := range 3 {
		startAs(t, x, api.OK)
		outcomeAs(t, "started", x, api.Outcome{How: api.Going, Steps: 6 * n, Out: slices.Repeat([]byte("1"), n)})
		startAs(t, x, api.ErrState)
		stepAs(t, x, 1000, 6)
		outcomeAs(t, "its end", x, api.Outcome{How: api.Done, Steps: 6 * (n + 1), Out: slices.Repeat([]byte("1"), n+1)})
	}
	callAs(t, x, "f", nil, api.OK)
	stepAs(t, x, 9, 1)
	outcomeAs(t, "f", x, api.Outcome{How: api.Done, Results: []uint32{5}, Steps: 19, Out: []byte("111")})
	startAs(t, x, api.OK)
	outcomeAs(t, "no results of f", x, api.Outcome{How: api.Going, Steps: 19, Out: []byte("111")})
	// The function 0 as the start.
	m = api.Module{Types: types(), Funcs: []api.Func{{Code: api.Code{L: code(op(api.OpUnreachable))}}}, Started: true}
	x = must(t, m, "")
	startAs(t, x, api.OK)
	stepAs(t, x, 9, 1)
	outcomeAs(t, "the function 0", x, api.Outcome{How: api.Fallen, Trap: api.ErrUnreachable, Steps: 1})
}

// Calls of the place's functions: what they take, in order, is theirs; what they return is pushed; the caller's own words stay.
func TestCallWithin(t *testing.T) {
	m := leaving(word(100), word(7), set(0), word(5), word(9), calling(theF+1), op(api.OpAdd), get(0), op(api.OpAdd), get(1), op(api.OpAdd))
	returns(t, "a call", add(m, typeTwo, 2, get(0), get(1), op(api.OpSub), word(50), set(0), word(60), set(1), word(70), set(3)), 11+9, 100-4+7)
	returns(t, "more words there", add(leaving(word(1), word(2), word(3), calling(theF+1), op(api.OpMul)), typeTwo, 0, get(0), get(1), op(api.OpMul)), 5+3, 6)
	// Through the table, by the entry that is taken last.
	m = leaving(word(100), word(5), word(9), word(4), with(api.OpIndirect, typeTwo), op(api.OpAdd))
	m.Elems = append(m.Elems, api.Elem{Offset: code(word(4)), Funcs: []uint32{theF + 1}})
	returns(t, "an entry", add(m, typeTwo, 2, get(0), get(1), op(api.OpSub)), 6+3, 96)
	// One that calls itself: 10 + 9 + .. + 1, each call with words of its own.
	m = module(typeBoth, 1, get(0), set(1), get(0), op(api.OpEqz), either(1, code(word(0)), code(get(0), word(1), op(api.OpSub), calling(theF), get(1), op(api.OpAdd))))
	returns(t, "itself", m, 10*11+6, 55, 10)
	// Two that call one another.
	m = module(typeBoth, 0, get(0), op(api.OpEqz), either(1, code(word(1)), code(get(0), word(1), op(api.OpSub), calling(theF+1))))
	m = add(m, typeBoth, 0, get(0), op(api.OpEqz), either(1, code(word(0)), code(get(0), word(1), op(api.OpSub), calling(theF))))
	for n := range uint32(20) {
		returns(t, "even", m, 7*int(n)+4, 1-n%2, n)
	}
}

// The function's own words are 0 at each call's beginning, whatever was pushed, or set, where they stand.
func TestLocalsAnew(t *testing.T) {
	dirty := slices.Repeat(code(word(math.MaxUint32)), 40)
	used := join(dirty, slices.Repeat(code(op(api.OpDrop)), 40))
	sum := code(get(0), get(1), get(2), get(3), get(9), get(19), op(api.OpOr), op(api.OpOr), op(api.OpOr), op(api.OpOr), op(api.OpOr), word(9), set(0), word(9), set(3), word(9), set(19))
	m := add(leaving(join(used, code(calling(theF+1)), used, code(calling(theF+1), op(api.OpAdd), calling(theF+1), op(api.OpAdd)))...), typeGet, 20, sum...)
	x := returns(t, "anew", m, 160+5+3*17, 0)
	callAs(t, x, "f", nil, api.OK)
	x.Step(plenty)
	if o := x.Outcome(); o.How != api.Done || o.Results[0] != 0 {
		t.Errorf("a second run: %+v", o)
	}
	// The words of callers stay as they were while others call, and need room.
	deep := code(get(0), either(0, code(get(0), word(1), op(api.OpSub), calling(theF+1)), nil), get(0))
	m = leaving(word(1), word(2), word(3), word(11), set(0), word(12), set(1), word(13), set(2), word(500), calling(theF+1),
		get(0), get(1), get(2), op(api.OpMul), op(api.OpMul), op(api.OpAdd), op(api.OpMul), op(api.OpAdd))
	m = add(m, typePut, 300, append(deep, set(300))...)
	returns(t, "callers", m, 19+501*4+500*4, 1+2*(3+11*12*13))
}

// The table: no such entry, no function in it, one of another type; the entry is taken from all its numbers.
func TestTable(t *testing.T) {
	entries := func(n uint32, kind uint32) api.Module {
		m := doing(slices.Repeat(code(word(5)), types()[kind].Params)...)
		f := &m.Funcs[0].Code.L
		*f = append(*f, word(n), with(api.OpIndirect, kind))
		*f = append(*f, slices.Repeat(code(op(api.OpDrop)), types()[kind].Results)...)
		m.Elems = []api.Elem{{Offset: code(word(1)), Funcs: []uint32{theF + 1, theF + 2, theF + 3, theGetc}}}
		m = add(m, typeBoth, 0, get(0))
		m = add(m, typeNone, 0, op(api.OpNop))
		return add(m, typeTwo, 0, get(1))
	}
	kinds := []int{1: typeBoth, 2: typeNone, 3: typeTwo, 4: typeGet}
	for kind, shape := range types() {
		steps := shape.Params + 2
		for _, n := range append([]uint32{3, 4, 5, 6, 7, 100}, edges()...) {
			switch {
			case n == 0 || n >= 5:
				falls(t, "no function there", entries(n, uint32(kind)), steps, api.ErrEntry)
			case kinds[n] != kind:
				falls(t, "another type", entries(n, uint32(kind)), steps, api.ErrMatch)
			default:
				all := steps + 1 + shape.Results
				if n == 4 { // getc is done with the call's step
					all--
				}
				if _, o := ran(t, entries(n, uint32(kind)), ""); !same(o, api.Outcome{How: api.Done, Steps: all}) {
					t.Errorf("the entry %d: %+v, want %d steps", n, o, all)
				}
			}
		}
	}
	// A type of the same numbers of words is the same, whatever its number.
	m := entries(1, typeBoth)
	m.Types = append(m.Types, api.FuncType{Params: 1, Results: 1})
	m.Funcs[1].Type = len(m.Types) - 1
	if _, o := ran(t, m, ""); o.How != api.Done {
		t.Errorf("the same type twice: %+v", o)
	}
	// A table of no entries, and one without elements.
	m.Elems = nil
	falls(t, "no elements", m, 3, api.ErrEntry)
	m.Tables[0].Min = 0
	falls(t, "no entries", m, 3, api.ErrEntry)
}
