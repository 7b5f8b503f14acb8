package stack

import (
	"math"
	"testing"

	"gimlet/api"
)

func TestPushEdges(t *testing.T) {
	none := api.Stand{}
	at := func(h int) api.Stand {
		return api.Stand{Height: h, Frames: []api.Frame{{}, {Op: api.OpIf, Results: 1}}}
	}
	for _, c := range []struct {
		height, n int
		want      api.Stand
		err       api.Errno
	}{
		{0, -1, none, api.ErrArg}, {7, math.MinInt, none, api.ErrArg}, {top, -1, none, api.ErrArg},
		{0, 0, at(0), api.OK}, {7, 0, at(7), api.OK}, {top, 0, at(top), api.OK},
		{0, 1, at(1), api.OK}, {7, 5, at(12), api.OK},
		{0, top, at(top), api.OK}, {1, top - 1, at(top), api.OK}, {top - 1, 1, at(top), api.OK},
		{0, top + 1, none, api.ErrFull}, {1, top, none, api.ErrFull}, {top, 1, none, api.ErrFull}, {top, top, none, api.ErrFull},
		{0, math.MaxInt, none, api.ErrFull}, {1, math.MaxInt, none, api.ErrFull}, {top, math.MaxInt, none, api.ErrFull}, {top, math.MaxInt - top, none, api.ErrFull},
		{0, math.MaxInt32, none, api.ErrFull}, {0, math.MaxUint32 + 1, none, api.ErrFull},
	} {
		s, e := Push(at(c.height), c.n)
		holds(t, "Push", s, e, c.want, c.err)
	}
}

// A dead list has the same bound, and its words are counted as others are.
func TestPushDead(t *testing.T) {
	dead := []api.Frame{{}, {Op: api.OpLoop, Base: 3, Dead: true}}
	s, e := Push(api.Stand{Height: 3, Frames: dead}, 4)
	holds(t, "Push", s, e, api.Stand{Height: 7, Frames: dead}, api.OK)
	s, e = Push(api.Stand{Height: 3, Frames: dead}, top-3)
	holds(t, "Push", s, e, api.Stand{Height: top, Frames: dead}, api.OK)
	s, e = Push(api.Stand{Height: 3, Frames: dead}, top-2)
	holds(t, "Push", s, e, api.Stand{}, api.ErrFull)
}

func TestPopEdges(t *testing.T) {
	none := api.Stand{}
	at := func(h int, dead bool) api.Stand {
		return api.Stand{Height: h, Frames: []api.Frame{{Dead: !dead}, {Op: api.OpElse, Base: 3, Dead: dead}}}
	}
	for _, c := range []struct {
		height, n int
		dead      bool
		want      api.Stand
		err       api.Errno
	}{
		{5, -1, false, none, api.ErrArg}, {5, -1, true, none, api.ErrArg}, {3, math.MinInt, false, none, api.ErrArg}, {3, math.MinInt, true, none, api.ErrArg},
		{5, 0, false, at(5, false), api.OK}, {5, 1, false, at(4, false), api.OK}, {5, 2, false, at(3, false), api.OK},
		{5, 3, false, none, api.ErrUnder}, {5, 5, false, none, api.ErrUnder}, {5, 6, false, none, api.ErrUnder}, {5, math.MaxInt, false, none, api.ErrUnder},
		{3, 0, false, at(3, false), api.OK}, {3, 1, false, none, api.ErrUnder},
		{5, 0, true, at(5, true), api.OK}, {5, 1, true, at(4, true), api.OK}, {5, 2, true, at(3, true), api.OK},
		{5, 3, true, at(3, true), api.OK}, {5, 5, true, at(3, true), api.OK}, {5, 6, true, at(3, true), api.OK}, {5, math.MaxInt, true, at(3, true), api.OK},
		{3, 0, true, at(3, true), api.OK}, {3, 1, true, at(3, true), api.OK}, {3, math.MaxInt, true, at(3, true), api.OK},
		{top, top - 3, false, at(3, false), api.OK}, {top, top - 2, false, none, api.ErrUnder}, {top, top - 2, true, at(3, true), api.OK}, {top, math.MaxInt, false, none, api.ErrUnder}, {top, math.MaxInt, true, at(3, true), api.OK},
	} {
		s, e := Pop(at(c.height, c.dead), c.n)
		holds(t, "Pop", s, e, c.want, c.err)
	}
	// A function's own list, from all words to one more.
	s, e := Pop(api.Stand{Height: top, Frames: []api.Frame{{}}}, top)
	holds(t, "Pop", s, e, api.Stand{Frames: []api.Frame{{}}}, api.OK)
	s, e = Pop(api.Stand{Height: top, Frames: []api.Frame{{}}}, top+1)
	holds(t, "Pop", s, e, none, api.ErrUnder)
	s, e = Pop(api.Stand{Height: top, Frames: []api.Frame{{Dead: true}}}, top+1)
	holds(t, "Pop", s, e, api.Stand{Frames: []api.Frame{{Dead: true}}}, api.OK)
}

func TestDeadTwice(t *testing.T) {
	s := plain()
	want := plain()
	want.Height, want.Frames[3].Dead = 9, true
	once, e := Dead(s)
	holds(t, "Dead", once, e, want, api.OK)
	again, e := Dead(once)
	holds(t, "Dead again", again, e, want, api.OK)
	pushed, _ := Push(once, 5)
	again, e = Dead(pushed)
	holds(t, "Dead after Push", again, e, want, api.OK)
	// Only the innermost list is dead, only its words are gone.
	first, e := Dead(api.Stand{Height: top, Frames: []api.Frame{{Results: 1}}})
	holds(t, "Dead", first, e, api.Stand{Frames: []api.Frame{{Results: 1, Dead: true}}}, api.OK)
}

// P10.2 of all small stands, and of those at the bounds.
func TestWordsEvery(t *testing.T) {
	for _, s := range append(smallStands(3, 0), edgeStands()...) {
		for _, n := range []int{-1, 0, 1, 2, 3, 7, top - s.Height, top - s.Height + 1, math.MaxInt} {
			checkPush(t, s, n)
		}
		for _, n := range []int{-1, 0, 1, 2, 3, 7, s.Height, s.Height + 1, math.MaxInt} {
			checkPop(t, s, n)
		}
		checkDead(t, s)
	}
}
