package stack

import (
	"math"
	"slices"
	"testing"

	"gimlet/api"
)

func TestEnterEdges(t *testing.T) {
	for _, s := range []api.Stand{standOf([]level{{}}), plain(), deepStand(998), deepStand(999), deepStand(1000), standOf([]level{{own: top}}), standOf([]level{{own: 4, dead: true}})} {
		for _, results := range []int{math.MinInt, -1, 0, 1, 2, 256, 257, math.MaxInt} {
			for op := -2; op < 0x80; op++ {
				checkEnter(t, s, op, results)
			}
			for _, op := range []int{math.MinInt, math.MaxInt, 256, 258, 2 | 1<<32, 5 | 1<<16, -3} {
				checkEnter(t, s, op, results)
			}
		}
	}
}

func TestEnterFrames(t *testing.T) {
	s := api.Stand{Height: 7, Frames: []api.Frame{{Dead: true}, {Op: api.OpLoop, Base: 4, Results: 1, Dead: true}}}
	for _, op := range []int{api.OpBlock, api.OpLoop, api.OpIf, api.OpElse} {
		for results := range 2 {
			got, e := Enter(s, op, results)
			// The new list is not dead, though the one around it is.
			want := api.Stand{Height: 7, Frames: append(slices.Clone(s.Frames), api.Frame{Op: op, Base: 7, Results: results, Dead: false})}
			holds(t, "Enter", got, e, want, api.OK)
		}
	}
}

func TestEnterFull(t *testing.T) {
	for _, op := range listOps {
		s := deepStand(999)
		s, e := Enter(s, op, 1)
		if e != api.OK || len(s.Frames) != 1000 || Check(s) != api.OK {
			t.Errorf("the frame 1,000: %v, %v", show(s), e)
		}
		s, e = Enter(s, op, 1)
		holds(t, "the frame 1,001", s, e, api.Stand{}, api.ErrFull)
	}
	// What is wrong in itself comes ahead of too many frames.
	for _, c := range [][2]int{{0, 0}, {6, 1}, {api.OpEnd, 0}, {api.OpIf, 2}, {api.OpBlock, -1}, {-1, -1}} {
		s, e := Enter(deepStand(1000), c[0], c[1])
		holds(t, "both", s, e, api.Stand{}, api.ErrArg)
	}
}

func TestLeaveEdges(t *testing.T) {
	none := api.Stand{}
	for _, dead := range []bool{false, true} {
		for results := range 2 {
			for own := range 4 {
				err := api.OK
				switch {
				case own > results:
					err = api.ErrLeft
				case own < results && !dead:
					err = api.ErrUnder
				}
				// An inner list, of each kind: its words are on top of the five that were there.
				for _, op := range listOps {
					outer := api.Frame{Op: api.OpLoop, Base: 2, Results: 1, Dead: !dead}
					want := api.Stand{Height: 5 + results, Frames: []api.Frame{{Results: 1}, outer}}
					if err != api.OK {
						want = none
					}
					s, e := Leave(api.Stand{Height: 5 + own, Frames: []api.Frame{{Results: 1}, outer, {Op: op, Base: 5, Results: results, Dead: dead}}})
					holds(t, "Leave a list", s, e, want, err)
				}
				// A function's.
				want := api.Stand{Height: results}
				if err != api.OK {
					want = none
				}
				s, e := Leave(api.Stand{Height: own, Frames: []api.Frame{{Results: results, Dead: dead}}})
				holds(t, "Leave the last", s, e, want, err)
			}
		}
	}
}

func TestLeaveHigh(t *testing.T) {
	none := api.Stand{}
	first := []api.Frame{{}}
	list := func(base, results int, dead bool) []api.Frame {
		return []api.Frame{{}, {Op: api.OpBlock, Base: base, Results: results, Dead: dead}}
	}
	for _, c := range []struct {
		s, want api.Stand
		err     api.Errno
	}{
		{api.Stand{Height: top, Frames: list(top, 0, false)}, api.Stand{Height: top, Frames: first}, api.OK},
		{api.Stand{Height: top, Frames: list(top, 0, true)}, api.Stand{Height: top, Frames: first}, api.OK},
		{api.Stand{Height: top, Frames: list(top-1, 1, false)}, api.Stand{Height: top, Frames: first}, api.OK},
		{api.Stand{Height: top, Frames: list(top-1, 1, true)}, api.Stand{Height: top, Frames: first}, api.OK},
		{api.Stand{Height: top - 1, Frames: list(top-1, 1, true)}, api.Stand{Height: top, Frames: first}, api.OK},
		{api.Stand{Height: top, Frames: list(top, 1, false)}, none, api.ErrUnder},
		// Whatever the height is: one beyond the greatest.
		{api.Stand{Height: top, Frames: list(top, 1, true)}, api.Stand{Height: top + 1, Frames: first}, api.OK},
		{api.Stand{Height: top, Frames: list(top-1, 0, true)}, none, api.ErrLeft},
		{api.Stand{Height: top, Frames: list(0, 1, true)}, none, api.ErrLeft},
		{api.Stand{Height: top, Frames: []api.Frame{{Results: 1}}}, none, api.ErrLeft},
		{api.Stand{Height: top, Frames: []api.Frame{{Dead: true}}}, none, api.ErrLeft},
	} {
		s, e := Leave(c.s)
		holds(t, "Leave", s, e, c.want, c.err)
	}
}

func TestLabelEdges(t *testing.T) {
	s := api.Stand{Height: 9, Frames: []api.Frame{{Results: 1}, {Op: api.OpLoop, Results: 1}, {Op: api.OpBlock, Base: 2, Results: 1}, {Op: api.OpLoop, Base: 4}, {Op: api.OpIf, Base: 4, Results: 1}, {Op: api.OpElse, Base: 4, Results: 1, Dead: true}, {Op: api.OpElse, Base: 4}, {Op: api.OpIf, Base: 9}, {Op: api.OpBlock, Base: 9}}}
	for n, want := range []int{0, 0, 0, 1, 1, 0, 1, 0, 1} {
		if k, e := Label(s, n); k != want || e != api.OK {
			t.Errorf("Label %d: %d, %v; want %d", n, k, e, want)
		}
	}
	for _, n := range []int{math.MinInt, math.MinInt32, -9, -2, -1, 9, 10, 1000, 1 << 32, math.MaxInt} {
		if k, e := Label(s, n); k != 0 || e != api.ErrMissing {
			t.Errorf("Label %d: %d, %v", n, k, e)
		}
	}
	// A function's own list, with both Results, and nothing beside.
	for results := range 2 {
		f, _ := New(results)
		if k, e := Label(f, 0); k != results || e != api.OK {
			t.Errorf("Label 0 of %d: %d, %v", results, k, e)
		}
		if k, e := Label(f, 1); k != 0 || e != api.ErrMissing {
			t.Errorf("Label 1 of %d: %d, %v", results, k, e)
		}
	}
}

// P10.3 of all small stands, and of those at the bounds.
func TestListsEvery(t *testing.T) {
	for _, s := range append(smallStands(3, 0), edgeStands()...) {
		for _, op := range []int{0, 1, 2, 3, 4, 5, 6} {
			for results := -1; results <= 2; results++ {
				checkEnter(t, s, op, results)
			}
		}
		checkLeave(t, s)
		for _, n := range []int{-1, 0, 1, 2, 3, len(s.Frames) - 1, len(s.Frames), math.MaxInt} {
			checkLabel(t, s, n)
		}
	}
	for n := range 1001 {
		checkLabel(t, deepStand(1000), n)
	}
}

func TestExamples(t *testing.T) {
	s, e := New(1)
	holds(t, "New(1)", s, e, api.Stand{Frames: []api.Frame{{Results: 1}}}, api.OK)
	two, e := Push(s, 2)
	holds(t, "Push 2", two, e, api.Stand{Height: 2, Frames: s.Frames}, api.OK)
	one, e := Pop(two, 1)
	holds(t, "Pop 1", one, e, api.Stand{Height: 1, Frames: s.Frames}, api.OK)
	if k, e := Label(one, 0); k != 1 || e != api.OK {
		t.Errorf("Label 0: %d, %v", k, e)
	}
	for _, c := range []struct {
		s, want api.Stand
		err     api.Errno
	}{{two, api.Stand{}, api.ErrLeft}, {s, api.Stand{}, api.ErrUnder}, {one, api.Stand{Height: 1}, api.OK}} {
		s, e := Leave(c.s)
		holds(t, "Leave", s, e, c.want, c.err)
	}

	s, _ = New(0)
	s, _ = Push(s, 1)
	s, e = Enter(s, api.OpLoop, 1)
	holds(t, "Enter", s, e, api.Stand{Height: 1, Frames: []api.Frame{{}, {Op: api.OpLoop, Base: 1, Results: 1}}}, api.OK)
	under, e := Pop(s, 1)
	holds(t, "Pop 1", under, e, api.Stand{}, api.ErrUnder)
	for n, err := range []api.Errno{api.OK, api.OK, api.ErrMissing} {
		if k, e := Label(s, n); k != 0 || e != err {
			t.Errorf("Label %d: %d, %v", n, k, e)
		}
	}

	s, _ = New(0)
	s, _ = Enter(s, api.OpBlock, 1)
	s, _ = Dead(s)
	s, e = Pop(s, 3)
	holds(t, "Pop 3", s, e, api.Stand{Frames: []api.Frame{{}, {Op: api.OpBlock, Results: 1, Dead: true}}}, api.OK)
	s, e = Leave(s)
	holds(t, "Leave", s, e, api.Stand{Height: 1, Frames: []api.Frame{{}}}, api.OK)
}
