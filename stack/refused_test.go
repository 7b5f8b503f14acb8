package stack

import (
	"math"
	"slices"
	"strconv"
	"testing"

	"gimlet/api"
)

// spoilt is a stand that is not valid.
type spoilt struct {
	what string
	s    api.Stand
}

// spoil returns a valid stand with one thing in it wrong, each in turn.
func spoil(s api.Stand) []spoilt {
	var all []spoilt
	add := func(what string, change func(*api.Stand)) {
		bad := api.Stand{Height: s.Height, Frames: slices.Clone(s.Frames)}
		change(&bad)
		all = append(all, spoilt{what, bad})
	}
	for _, h := range []int{math.MinInt, -1, top + 1, math.MaxInt} {
		add("height", func(b *api.Stand) { b.Height = h })
	}
	add("no frames", func(b *api.Stand) { b.Frames = nil })
	add("too many frames", func(b *api.Stand) {
		for len(b.Frames) < 1001 {
			b.Frames = append(b.Frames, api.Frame{Op: api.OpLoop, Base: b.Height})
		}
	})
	for k := range s.Frames {
		if k > 2 && k < len(s.Frames)-2 {
			continue
		}
		at := " of frame " + strconv.Itoa(k)
		for _, results := range []int{math.MinInt, -1, 2, math.MaxInt} {
			add("results"+at, func(b *api.Stand) { b.Frames[k].Results = results })
		}
		for _, base := range []int{math.MinInt, -1, s.Height + 1, math.MaxInt} {
			add("base"+at, func(b *api.Stand) { b.Frames[k].Base = base })
		}
		if k == 0 {
			for _, op := range append([]int{-1, 1, api.OpCall}, listOps...) {
				add("op"+at, func(b *api.Stand) { b.Frames[k].Op = op })
			}
			continue
		}
		for _, op := range []int{0, 1, 6, api.OpEnd, api.OpBr, -2} {
			add("op"+at, func(b *api.Stand) { b.Frames[k].Op = op })
		}
		add("base beneath the one before"+at, func(b *api.Stand) { b.Frames[k].Base = b.Frames[k-1].Base - 1 })
	}
	return all
}

// wrongStands are stands each with one thing wrong: most of them ones of which a function would return another error, if that were not.
func wrongStands() []spoilt {
	var all []spoilt
	for _, s := range []api.Stand{
		standOf([]level{{}}),
		standOf([]level{{own: 2, results: 1}}),
		standOf([]level{{results: 1}}),
		standOf([]level{{own: 1}, {op: api.OpBlock, own: 3, results: 1}, {op: api.OpLoop, own: 1, results: 1}}),
		standOf([]level{{own: 1}, {op: api.OpIf, own: 1, dead: true}, {op: api.OpElse, results: 1}}),
		standOf([]level{{own: 1}, {op: api.OpIf, own: 1}, {op: api.OpElse, own: 5, dead: true}}),
		standOf([]level{{own: top}}),
		standOf([]level{{own: top}, {op: api.OpLoop, results: 1}}),
		deepStand(999),
		deepStand(1000),
	} {
		all = append(all, spoil(s)...)
	}
	return all
}

// Every function except New returns ErrArg for what is not a stand, ahead of any other error, and nothing else.
func TestRefused(t *testing.T) {
	numbers := []int{math.MinInt, -1, 0, 1, 2, 3, top, top + 1, math.MaxInt}
	for _, w := range wrongStands() {
		if isStand(w.s) {
			t.Fatalf("%s: %v is a stand", w.what, show(w.s))
		}
		if e := Check(w.s); e != api.ErrArg {
			t.Errorf("%s: Check(%v) = %v", w.what, show(w.s), e)
		}
		for _, n := range numbers {
			s, e := Push(w.s, n)
			holds(t, w.what+": Push", s, e, api.Stand{}, api.ErrArg)
			s, e = Pop(w.s, n)
			holds(t, w.what+": Pop", s, e, api.Stand{}, api.ErrArg)
		}
		for _, n := range append(numbers, 998, 999, 1000, 1001) {
			if k, e := Label(w.s, n); k != 0 || e != api.ErrArg {
				t.Errorf("%s: Label(%v, %d) = %d, %v", w.what, show(w.s), n, k, e)
			}
		}
		for _, op := range append([]int{0, 1, -1}, listOps...) {
			for results := -1; results <= 2; results++ {
				s, e := Enter(w.s, op, results)
				holds(t, w.what+": Enter", s, e, api.Stand{}, api.ErrArg)
			}
		}
		s, e := Dead(w.s)
		holds(t, w.what+": Dead", s, e, api.Stand{}, api.ErrArg)
		s, e = Leave(w.s)
		holds(t, w.what+": Leave", s, e, api.Stand{}, api.ErrArg)
	}
}

// What Leave returns of a function's list is not a stand, nor is what goes beyond the greatest height.
func TestRefusedAfterLeave(t *testing.T) {
	for _, s := range []api.Stand{standOf([]level{{}}), standOf([]level{{own: top}, {op: api.OpIf, results: 1, dead: true}})} {
		after, e := Leave(s)
		if e != api.OK {
			t.Fatal(show(s), e)
		}
		if again, e := Leave(after); e != api.ErrArg || !sameStand(again, api.Stand{}) {
			t.Errorf("Leave(%v) = %v, %v", show(after), show(again), e)
		}
		if e := Check(after); e != api.ErrArg {
			t.Errorf("Check(%v) = %v", show(after), e)
		}
	}
}
