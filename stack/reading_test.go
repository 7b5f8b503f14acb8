package stack

import (
	"slices"
	"testing"

	"gimlet/api"
)

const top = 1 << 30 // the greatest height

var listOps = []int{2, 3, 4, 5} // block, loop, if, and an if's else

// level is an open list with the words of its own: those that no list within it was entered on top of.
type level struct {
	op, own, results int
	dead             bool
}

// standOf returns the stand that has such open lists.
func standOf(l []level) api.Stand {
	var s api.Stand
	for _, v := range l {
		s.Frames = append(s.Frames, api.Frame{Op: v.op, Base: s.Height, Results: v.results, Dead: v.dead})
		s.Height += v.own
	}
	return s
}

// levelsOf returns the open lists that a valid stand has.
func levelsOf(s api.Stand) []level {
	var l []level
	for k, f := range s.Frames {
		next := s.Height
		if k+1 < len(s.Frames) {
			next = s.Frames[k+1].Base
		}
		l = append(l, level{f.Op, next - f.Base, f.Results, f.Dead})
	}
	return l
}

// isStand is the chapter's definition.
func isStand(s api.Stand) bool {
	if s.Height < 0 || s.Height > top || len(s.Frames) < 1 || len(s.Frames) > 1000 {
		return false
	}
	for k, f := range s.Frames {
		if f.Results != 0 && f.Results != 1 || f.Base > s.Height {
			return false
		}
		if k == 0 && (f.Op != 0 || f.Base != 0) {
			return false
		}
		if k > 0 && (!slices.Contains(listOps, f.Op) || f.Base < s.Frames[k-1].Base) {
			return false
		}
	}
	return true
}

func last(l []level) *level { return &l[len(l)-1] }

// The functions of the chapter, of open lists, said another way: each changes the words of one of them.

func readPush(l []level, n int) (api.Stand, api.Errno) {
	switch {
	case n < 0:
		return api.Stand{}, api.ErrArg
	case uint64(standOf(l).Height)+uint64(n) > top:
		return api.Stand{}, api.ErrFull
	}
	l = slices.Clone(l)
	last(l).own += n
	return standOf(l), api.OK
}

func readPop(l []level, n int) (api.Stand, api.Errno) {
	switch {
	case n < 0:
		return api.Stand{}, api.ErrArg
	case n > last(l).own && !last(l).dead:
		return api.Stand{}, api.ErrUnder
	}
	l = slices.Clone(l)
	last(l).own -= min(n, last(l).own)
	return standOf(l), api.OK
}

func readDead(l []level) (api.Stand, api.Errno) {
	l = slices.Clone(l)
	last(l).own, last(l).dead = 0, true
	return standOf(l), api.OK
}

func readEnter(l []level, op, results int) (api.Stand, api.Errno) {
	switch {
	case !slices.Contains(listOps, op) || results != 0 && results != 1:
		return api.Stand{}, api.ErrArg
	case len(l) == 1000:
		return api.Stand{}, api.ErrFull
	}
	return standOf(append(slices.Clone(l), level{op: op, results: results})), api.OK
}

func readLeave(l []level) (api.Stand, api.Errno) {
	in := *last(l)
	switch {
	case in.own < in.results && !in.dead:
		return api.Stand{}, api.ErrUnder
	case in.own > in.results:
		return api.Stand{}, api.ErrLeft
	case len(l) == 1:
		return api.Stand{Height: in.results}, api.OK
	}
	l = slices.Clone(l[:len(l)-1])
	last(l).own += in.results
	return standOf(l), api.OK
}

func readLabel(l []level, n int) (int, api.Errno) {
	within := 0
	for _, v := range slices.Backward(l) {
		switch {
		case within != n:
			within++
		case v.op == 3:
			return 0, api.OK
		default:
			return v.results, api.OK
		}
	}
	return 0, api.ErrMissing
}

func sameStand(a, b api.Stand) bool {
	return a.Height == b.Height && slices.Equal(a.Frames, b.Frames)
}

// show shortens a stand for a message.
func show(s api.Stand) any {
	if len(s.Frames) <= 5 {
		return s
	}
	return []any{s.Height, len(s.Frames), s.Frames[len(s.Frames)-3:]}
}

// holds holds what was returned against what is wanted.
func holds(t *testing.T, what string, s api.Stand, e api.Errno, want api.Stand, err api.Errno) {
	t.Helper()
	if e != err || !sameStand(s, want) {
		t.Errorf("%s = %v, %v; want %v, %v", what, show(s), e, show(want), err)
	}
}

func checkPush(t *testing.T, s api.Stand, n int) {
	t.Helper()
	want, err := readPush(levelsOf(s), n)
	if got, e := Push(s, n); e != err || !sameStand(got, want) {
		t.Errorf("Push(%v, %d) = %v, %v; want %v, %v", show(s), n, show(got), e, show(want), err)
	}
}

func checkPop(t *testing.T, s api.Stand, n int) {
	t.Helper()
	want, err := readPop(levelsOf(s), n)
	if got, e := Pop(s, n); e != err || !sameStand(got, want) {
		t.Errorf("Pop(%v, %d) = %v, %v; want %v, %v", show(s), n, show(got), e, show(want), err)
	}
}

func checkDead(t *testing.T, s api.Stand) {
	t.Helper()
	want, err := readDead(levelsOf(s))
	if got, e := Dead(s); e != err || !sameStand(got, want) {
		t.Errorf("Dead(%v) = %v, %v; want %v, %v", show(s), show(got), e, show(want), err)
	}
}

func checkEnter(t *testing.T, s api.Stand, op, results int) {
	t.Helper()
	want, err := readEnter(levelsOf(s), op, results)
	if got, e := Enter(s, op, results); e != err || !sameStand(got, want) {
		t.Errorf("Enter(%v, %d, %d) = %v, %v; want %v, %v", show(s), op, results, show(got), e, show(want), err)
	}
}

func checkLeave(t *testing.T, s api.Stand) {
	t.Helper()
	want, err := readLeave(levelsOf(s))
	if got, e := Leave(s); e != err || !sameStand(got, want) {
		t.Errorf("Leave(%v) = %v, %v; want %v, %v", show(s), show(got), e, show(want), err)
	}
}

func checkLabel(t *testing.T, s api.Stand, n int) {
	t.Helper()
	want, err := readLabel(levelsOf(s), n)
	if got, e := Label(s, n); got != want || e != err {
		t.Errorf("Label(%v, %d) = %d, %v; want %d, %v", show(s), n, got, e, want, err)
	}
}

// smallStands returns all stands of up to most open lists, each with up to two words of its own, on top of some words of the function.
func smallStands(most, under int) []api.Stand {
	var all []api.Stand
	var grow func([]level)
	grow = func(l []level) {
		if len(l) > 0 {
			all = append(all, standOf(l))
		}
		if len(l) == most {
			return
		}
		ops := listOps
		if len(l) == 0 {
			ops = []int{0}
		}
		for own := range 3 {
			if len(l) == 0 {
				own += under
			}
			for results := range 2 {
				for _, op := range ops {
					grow(append(slices.Clone(l), level{op, own, results, false}))
					grow(append(slices.Clone(l), level{op, own, results, true}))
				}
			}
		}
	}
	grow(nil)
	return all
}

// deepStand returns a stand of n open lists, of each kind in turn, with up to two words of their own.
func deepStand(n int) api.Stand {
	l := []level{{own: 1, results: 1}}
	for k := 1; k < n; k++ {
		l = append(l, level{op: listOps[k%4], own: k % 3, results: k / 3 % 2, dead: k%5 == 0})
	}
	return standOf(l)
}

// edgeStands are valid stands at the bounds of the heights and of the numbers of frames.
func edgeStands() []api.Stand {
	all := []api.Stand{deepStand(998), deepStand(999), deepStand(1000)}
	for _, under := range []int{0, 1, top / 2, top - 5, top - 3, top - 2} {
		for _, s := range smallStands(2, under) {
			if isStand(s) {
				all = append(all, s)
			}
		}
	}
	return all
}
