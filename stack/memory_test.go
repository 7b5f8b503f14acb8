package stack

import (
	"reflect"
	"slices"
	"testing"

	"gimlet/api"
)

var behind = api.Frame{Op: 77, Base: -7, Results: 7, Dead: true}

// roomy returns the same stand, with frames that have others behind them in their memory.
func roomy(s api.Stand) api.Stand {
	n := len(s.Frames)
	l := append(slices.Clone(s.Frames), behind, behind, behind)
	return api.Stand{Height: s.Height, Frames: l[: n : n+3]}
}

// whole returns frames with the room behind them.
func whole(s api.Stand) []api.Frame { return s.Frames[:cap(s.Frames)] }

// call is one that returns a stand.
type call struct {
	what string
	do   func(api.Stand) (api.Stand, api.Errno)
}

// calls are of every function that returns a stand, with and without an error.
func calls() []call {
	return []call{
		{"Push 0", func(s api.Stand) (api.Stand, api.Errno) { return Push(s, 0) }},
		{"Push 2", func(s api.Stand) (api.Stand, api.Errno) { return Push(s, 2) }},
		{"Push -1", func(s api.Stand) (api.Stand, api.Errno) { return Push(s, -1) }},
		{"Push too many", func(s api.Stand) (api.Stand, api.Errno) { return Push(s, top+1) }},
		{"Pop 0", func(s api.Stand) (api.Stand, api.Errno) { return Pop(s, 0) }},
		{"Pop 1", func(s api.Stand) (api.Stand, api.Errno) { return Pop(s, 1) }},
		{"Pop -1", func(s api.Stand) (api.Stand, api.Errno) { return Pop(s, -1) }},
		{"Pop too many", func(s api.Stand) (api.Stand, api.Errno) { return Pop(s, top+1) }},
		{"Dead", Dead},
		{"Enter", func(s api.Stand) (api.Stand, api.Errno) { return Enter(s, api.OpIf, 1) }},
		{"Enter 0", func(s api.Stand) (api.Stand, api.Errno) { return Enter(s, 0, 1) }},
		{"Leave", Leave},
	}
}

// roomyStands are some stands, valid and not.
func roomyStands() []api.Stand {
	all := []api.Stand{
		plain(), deepStand(999), deepStand(1000),
		standOf([]level{{}}), standOf([]level{{own: 1, results: 1}}), standOf([]level{{own: 2, dead: true}}),
		standOf([]level{{own: 1}, {op: api.OpLoop, own: 1, results: 1}}),
		standOf([]level{{own: 1}, {op: api.OpLoop, results: 1, dead: true}}),
		standOf([]level{{own: 1}, {op: api.OpLoop, own: 1, results: 1}, {op: api.OpElse}}),
	}
	for _, w := range wrongStands() {
		all = append(all, w.s)
	}
	for k := range all {
		all[k] = roomy(all[k])
	}
	return all
}

// Rule 4: what is handed in stays as it was, with the room behind it; nor can a later write to what is returned be seen there.
func TestLeftAlone(t *testing.T) {
	for _, s := range roomyStands() {
		height, frames := s.Height, slices.Clone(whole(s))
		unchanged := func(what string) {
			t.Helper()
			if s.Height != height || !slices.Equal(whole(s), frames) {
				t.Fatalf("%s changed %v", what, show(s))
			}
		}
		for _, c := range calls() {
			got, _ := c.do(s)
			unchanged(c.what)
			if slices.Contains(whole(got), behind) {
				t.Errorf("%s of %v returns what was behind its frames", c.what, show(s))
			}
			for k := range whole(got) {
				whole(got)[k] = api.Frame{Op: 99}
			}
			unchanged("a write to what " + c.what + " returns")
		}
		Check(s)
		Label(s, 0)
		Label(s, -1)
		unchanged("Check or Label")
	}
}

// Rule 4: what is returned is not changed by a later write to what was handed in, nor by one to what another call returned.
func TestNewMemory(t *testing.T) {
	for _, s := range roomyStands() {
		for _, c := range calls() {
			given := roomy(s)
			one, e := c.do(given)
			other, _ := c.do(given)
			if e != api.OK && (one.Height != 0 || len(one.Frames) != 0) {
				t.Errorf("%s of %v: %v beside %v", c.what, show(s), show(one), e)
			}
			want := slices.Clone(one.Frames)
			for k := range whole(given) {
				whole(given)[k] = api.Frame{Op: 88}
			}
			for k := range whole(other) {
				whole(other)[k] = api.Frame{Op: 99}
			}
			if !slices.Equal(one.Frames, want) {
				t.Errorf("%s of %v shares memory", c.what, show(s))
			}
		}
	}
	one, _ := New(1)
	other, _ := New(1)
	other.Frames[0].Op = 99
	if third, _ := New(1); one.Frames[0] != (api.Frame{Results: 1}) || third.Frames[0] != one.Frames[0] {
		t.Error("New shares memory")
	}
}

// What is behind frames does not count: the same is returned with it and without.
func TestRoomUnread(t *testing.T) {
	for _, s := range roomyStands() {
		tight := api.Stand{Height: s.Height, Frames: slices.Clip(slices.Clone(s.Frames))}
		for _, c := range calls() {
			want, err := c.do(tight)
			got, e := c.do(s)
			holds(t, c.what, got, e, want, err)
		}
		if Check(s) != Check(tight) {
			t.Errorf("Check(%v)", show(s))
		}
		for n := -1; n <= len(s.Frames); n++ {
			a, e := Label(s, n)
			b, err := Label(tight, n)
			if a != b || e != err {
				t.Errorf("Label(%v, %d) = %d, %v; %d, %v", show(s), n, a, e, b, err)
			}
		}
	}
}

// A call returns the same again.
func TestAgain(t *testing.T) {
	for _, s := range smallStands(2, 0) {
		for _, c := range calls() {
			one, e := c.do(s)
			other, err := c.do(s)
			if e != err || !reflect.DeepEqual(one, other) {
				t.Errorf("%s of %v: %v, %v; %v, %v", c.what, show(s), show(one), e, show(other), err)
			}
		}
	}
}
