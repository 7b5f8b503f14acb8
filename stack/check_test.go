package stack

import (
	"math"
	"slices"
	"strconv"
	"testing"

	"gimlet/api"
)

func checkStand(t *testing.T, what string, s api.Stand, is bool) {
	t.Helper()
	want := api.ErrArg
	if is {
		want = api.OK
	}
	if e := Check(s); e != want {
		t.Errorf("%s: Check(%v) = %v, want %v", what, show(s), e, want)
	}
	if is != isStand(s) {
		t.Errorf("%s: %v: the test is at odds with itself", what, show(s))
	}
}

// plain is a stand with three words of each of three open lists.
func plain() api.Stand {
	return standOf([]level{{own: 3}, {op: api.OpBlock, own: 3}, {op: api.OpLoop, own: 3}, {op: api.OpIf, own: 3}})
}

func TestCheckHeights(t *testing.T) {
	for _, h := range []int{math.MinInt, -top, -2, -1, 0, 1, 2, top - 1, top, top + 1, 2 * top, math.MaxInt32, math.MaxInt - 1, math.MaxInt} {
		within := h >= 0 && h <= top
		checkStand(t, "a function", api.Stand{Height: h, Frames: []api.Frame{{}}}, within)
		checkStand(t, "a list", api.Stand{Height: h, Frames: []api.Frame{{}, {Op: api.OpBlock}}}, within)
		checkStand(t, "a list at its height", api.Stand{Height: h, Frames: []api.Frame{{}, {Op: api.OpBlock, Base: h}}}, within)
		checkStand(t, "no list", api.Stand{Height: h}, false)
	}
}

func TestCheckNumbersOfFrames(t *testing.T) {
	checkStand(t, "none", api.Stand{}, false)
	checkStand(t, "none", api.Stand{Frames: []api.Frame{}}, false)
	checkStand(t, "none, with room", api.Stand{Frames: plain().Frames[:0]}, false)
	for n := 1; n <= 1000; n++ {
		checkStand(t, strconv.Itoa(n), deepStand(n), true)
	}
	for _, n := range []int{1001, 1002, 1024, 2000, 1 << 16} {
		checkStand(t, strconv.Itoa(n), deepStand(n), false)
		checkStand(t, "cut", api.Stand{Height: top, Frames: deepStand(n).Frames[:1000]}, true)
	}
}

func TestCheckFirstFrame(t *testing.T) {
	for op := -300; op <= 300; op++ {
		checkStand(t, "alone", api.Stand{Height: 5, Frames: []api.Frame{{Op: op}}}, op == 0)
		s := plain()
		s.Frames[0].Op = op
		checkStand(t, "with others", s, op == 0)
	}
	for _, op := range []int{math.MinInt, math.MaxInt, math.MinInt32, 1 << 32, 1 << 16, api.OpElse | 1<<32} {
		checkStand(t, "far off", api.Stand{Frames: []api.Frame{{Op: op}}}, false)
	}
	for _, base := range []int{math.MinInt, -5, -1, 0, 1, 2, 3, 12, 13, math.MaxInt} {
		checkStand(t, "alone", api.Stand{Height: 12, Frames: []api.Frame{{Base: base}}}, base == 0)
		s := plain()
		s.Frames[0].Base = base
		checkStand(t, "with others", s, base == 0)
	}
	// Dead is free everywhere.
	for k := range 4 {
		s := plain()
		s.Frames[k].Dead = true
		checkStand(t, "dead", s, true)
	}
}

func TestCheckOps(t *testing.T) {
	for k := 1; k < 4; k++ {
		for op := -300; op <= 300; op++ {
			s := plain()
			s.Frames[k].Op = op
			checkStand(t, "frame "+strconv.Itoa(k), s, op >= 2 && op <= 5)
		}
		for _, op := range []int{math.MinInt, math.MaxInt, math.MinInt32, 1 << 32, 2 | 1<<32, 3 | 1<<16, -2, -5} {
			s := plain()
			s.Frames[k].Op = op
			checkStand(t, "frame "+strconv.Itoa(k), s, false)
		}
	}
}

// The frames of plain have the Bases 0, 3, 6 and 9; its height is 12.
func TestCheckBases(t *testing.T) {
	for k, within := range map[int][2]int{1: {0, 6}, 2: {3, 9}, 3: {6, 12}} {
		for _, base := range []int{math.MinInt, -1, 0, 1, 2, 3, 4, 5, 6, 7, 8, 9, 10, 11, 12, 13, 14, top, top + 1, math.MaxInt} {
			s := plain()
			s.Frames[k].Base = base
			checkStand(t, "frame "+strconv.Itoa(k), s, base >= within[0] && base <= within[1])
		}
	}
	for h := -1; h < 15; h++ {
		s := plain()
		s.Height = h
		checkStand(t, "a height", s, h >= 9)
	}
	checkStand(t, "all at the top", api.Stand{Height: top, Frames: []api.Frame{{}, {Op: 2, Base: top}, {Op: 3, Base: top}}}, true)
	checkStand(t, "one beyond it", api.Stand{Height: top, Frames: []api.Frame{{}, {Op: 2, Base: top}, {Op: 3, Base: top + 1}}}, false)
	checkStand(t, "one beneath it", api.Stand{Height: top, Frames: []api.Frame{{}, {Op: 2, Base: top}, {Op: 3, Base: top - 1}}}, false)
}

func TestCheckResults(t *testing.T) {
	for k := range 4 {
		for _, results := range []int{math.MinInt, -2, -1, 0, 1, 2, 3, 256, 257, 1 << 32, math.MaxInt} {
			s := plain()
			s.Frames[k].Results = results
			checkStand(t, "frame "+strconv.Itoa(k), s, results == 0 || results == 1)
			s.Frames = s.Frames[:k+1]
			checkStand(t, "the last", s, results == 0 || results == 1)
		}
	}
}

// Each thing that may be wrong, in the last of as many frames as there may be.
func TestCheckLastOfMany(t *testing.T) {
	for _, f := range []api.Frame{{}, {Op: 2, Base: -1}, {Op: 2, Base: top}, {Op: 2, Base: 1000, Results: 2}, {Op: 6, Base: 1000}} {
		s := deepStand(1000)
		s.Frames[999] = f
		checkStand(t, "the last of 1,000", s, false)
	}
}

// Check, against the chapter's definition, of all small stands, valid or not.
func TestCheckEvery(t *testing.T) {
	var frames []api.Frame
	for op := -1; op <= 6; op++ {
		for base := -1; base <= 3; base++ {
			for results := -1; results <= 2; results++ {
				frames = append(frames, api.Frame{Op: op, Base: base, Results: results, Dead: (op+base)%2 == 0})
			}
		}
	}
	var grow func(l []api.Frame)
	grow = func(l []api.Frame) {
		for h := -1; h <= 3; h++ {
			s := api.Stand{Height: h, Frames: l}
			checkStand(t, "a small stand", s, isStand(s))
		}
		for _, f := range frames {
			// Of three frames only those whose first two are valid, of two all.
			if len(l) < 2 || len(l) == 2 && isStand(api.Stand{Height: 3, Frames: l}) {
				grow(append(slices.Clone(l), f))
			}
		}
	}
	grow(nil)
}

func TestNew(t *testing.T) {
	for _, results := range []int{math.MinInt, math.MinInt32, -2, -1, 0, 1, 2, 3, 256, 257, 1 << 16, 1<<32 + 1, math.MaxInt} {
		s, e := New(results)
		if results == 0 || results == 1 {
			holds(t, "New", s, e, api.Stand{Frames: []api.Frame{{Op: 0, Base: 0, Results: results, Dead: false}}}, api.OK)
			checkStand(t, "New", s, true)
		} else {
			holds(t, "New", s, e, api.Stand{}, api.ErrArg)
		}
	}
}
