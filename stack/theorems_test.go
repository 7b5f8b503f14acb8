package stack

import (
	"math"
	"testing"

	"gimlet/api"
)

// manyStands are all small stands, and those at the bounds.
func manyStands() []api.Stand { return append(smallStands(3, 0), edgeStands()...) }

// P10.4: what is pushed can be popped, at once or in parts.
func TestPushedIsPopped(t *testing.T) {
	for _, s := range manyStands() {
		for _, n := range []int{0, 1, 2, 5, 1000, top - s.Height} {
			pushed, e := Push(s, n)
			if n > top-s.Height {
				holds(t, "Push", pushed, e, api.Stand{}, api.ErrFull)
				continue
			}
			for _, k := range []int{0, 1, n / 2, n} {
				if k > n {
					continue
				}
				popped, e := Pop(pushed, k)
				if e != api.OK || popped.Height != s.Height+n-k {
					t.Fatalf("%v, Push %d, Pop %d: %v, %v", show(s), n, k, show(popped), e)
				}
				back, e := Pop(popped, n-k)
				holds(t, "Push, Pop, Pop", back, e, s, api.OK)
			}
		}
	}
}

// P10.4: a list that was entered and is left puts its words on what was there before, whatever was done in it.
func TestLeftOnTop(t *testing.T) {
	within := []func(api.Stand) api.Stand{
		func(s api.Stand) api.Stand { return s },
		func(s api.Stand) api.Stand { return ok(Pop(ok(Push(s, 3)), 3)) },
		func(s api.Stand) api.Stand { return ok(Dead(ok(Push(s, 2)))) },
		func(s api.Stand) api.Stand { return ok(Pop(ok(Push(ok(Dead(s)), 2)), 7)) },
		func(s api.Stand) api.Stand { return ok(Leave(ok(Enter(s, api.OpLoop, 0)))) },
		func(s api.Stand) api.Stand { return ok(Pop(ok(Leave(ok(Dead(ok(Enter(s, api.OpIf, 1)))))), 1)) },
	}
	for _, s := range manyStands() {
		if len(s.Frames) > 998 || s.Height > top-4 {
			continue
		}
		want, wantOne := s, ok(Push(s, 1))
		for _, op := range listOps {
			for _, f := range within {
				back, e := Leave(f(ok(Enter(s, op, 0))))
				holds(t, "a list of none", back, e, want, api.OK)
				back, e = Leave(ok(Push(f(ok(Enter(s, op, 1))), 1)))
				holds(t, "a list of one", back, e, wantOne, api.OK)
			}
			under, e := Leave(ok(Enter(s, op, 1)))
			holds(t, "a list of one that has none", under, e, api.Stand{}, api.ErrUnder)
			left, e := Leave(ok(Push(ok(Enter(s, op, 0)), 1)))
			holds(t, "a list of none that has one", left, e, api.Stand{}, api.ErrLeft)
		}
	}
}

// P10.4: in what is dead nothing is missing.
func TestDeadMissesNothing(t *testing.T) {
	for _, s := range manyStands() {
		dead := ok(Dead(s))
		base := dead.Frames[len(dead.Frames)-1].Base
		for _, n := range []int{0, 1, 2, 1000, top, top + 1, math.MaxInt} {
			popped, e := Pop(dead, n)
			holds(t, "Dead, Pop", popped, e, dead, api.OK)
			if base < top {
				popped, e = Pop(ok(Push(dead, 1)), n)
				holds(t, "Dead, Push, Pop", popped, e, ok(Push(dead, max(1-n, 0))), api.OK)
			}
		}
		if left, e := Leave(dead); e != api.OK || left.Height != base+s.Frames[len(s.Frames)-1].Results || len(left.Frames) != len(s.Frames)-1 {
			t.Errorf("%v, Dead, Leave: %v, %v", show(s), show(left), e)
		}
		if len(s.Frames) == 1000 {
			continue
		}
		// A list within it is not dead: there something may be missing again.
		in := ok(Enter(dead, api.OpBlock, 1))
		under, e := Pop(in, 1)
		holds(t, "Dead, Enter, Pop", under, e, api.Stand{}, api.ErrUnder)
		under, e = Leave(in)
		holds(t, "Dead, Enter, Leave", under, e, api.Stand{}, api.ErrUnder)
	}
}

// ok returns a stand that no error is expected with.
func ok(s api.Stand, e api.Errno) api.Stand {
	if e != api.OK {
		panic(e)
	}
	return s
}

// dice are numbers that look as if by chance, the same ones each time.
type dice uint64

func (d *dice) below(n int) int {
	*d = *d*6364136223846793005 + 1442695040888963407
	return int(uint64(*d) >> 33 % uint64(n))
}

// Long series of calls, each held against the second reading; what is returned without an error is gone on from.
func TestSeries(t *testing.T) {
	d := dice(1)
	for round := range 300 {
		s := ok(New(round % 2))
		for range 400 {
			next, e := step(t, s, &d)
			if e == api.OK && isStand(next) {
				s = next
			}
		}
	}
}

// step makes one call, chosen by the dice.
func step(t *testing.T, s api.Stand, d *dice) (api.Stand, api.Errno) {
	t.Helper()
	checkLabel(t, s, d.below(len(s.Frames)+2)-1)
	n := d.below(5) - 1
	switch d.below(10) {
	case 0, 1, 2:
		checkPush(t, s, n)
		return Push(s, n)
	case 3, 4:
		checkPop(t, s, n)
		return Pop(s, n)
	case 5:
		checkDead(t, s)
		return Dead(s)
	case 6, 7, 8:
		op, results := 2+d.below(4), d.below(2)
		checkEnter(t, s, op, results)
		return Enter(s, op, results)
	}
	checkLeave(t, s)
	return Leave(s)
}
