package lex

import (
	"slices"
	"strings"
	"testing"

	"gimlet/api"
)

// dice are numbers that look random and are the same in each run.
type dice uint64

func (d *dice) below(n int) int {
	*d = *d*6364136223846793005 + 1442695040888963407
	return int(uint64(*d) >> 33 % uint64(n))
}

func (d *dice) of(l []string) string { return l[d.below(len(l))] }

func number(n int) api.Word { return api.Word{Kind: api.WordInt, N: n} }

func quote(s string) api.Word { return api.Word{Kind: api.WordText, S: s} }

func name(s string) api.Word { return api.Word{Kind: api.WordName, S: s} }

func con(s string) api.Word { return api.Word{Kind: api.WordCon, S: s} }

func variable(s string) api.Word { return api.Word{Kind: api.WordVar, S: s} }

func key(s string) api.Word { return api.Word{Kind: api.WordKey, S: s} }

func sign(s string) api.Word { return api.Word{Kind: api.WordSign, S: s} }

// at puts words at their places.
func at(places []int, l ...api.Word) []api.Word {
	for i, place := range places {
		l[i].At = place
	}
	return l
}

// plain are words without their places.
func plain(l []api.Word) []api.Word {
	l = slices.Clone(l)
	for i := range l {
		l[i].At = 0
	}
	return l
}

func short(s string) string {
	if len(s) > 60 {
		return s[:60] + ".."
	}
	return s
}

// lexes holds Lex against what it has to return.
func lexes(t *testing.T, text string, want []api.Word) {
	t.Helper()
	got, fault := Lex(text)
	if fault != (api.Fault{}) || !slices.Equal(got, want) {
		t.Errorf("Lex(%q) = %v, %v, want %v", short(text), got, fault, want)
	}
}

// says holds Lex against the words that it has to return, wherever these begin.
func says(t *testing.T, text string, want ...api.Word) {
	t.Helper()
	got, fault := Lex(text)
	if fault != (api.Fault{}) || !slices.Equal(plain(got), want) {
		t.Errorf("Lex(%q) = %v, %v, want %v", short(text), got, fault, want)
	}
}

// refuses holds Lex against the fault that it has to return.
func refuses(t *testing.T, text string, err api.Errno, at int) {
	t.Helper()
	got, fault := Lex(text)
	if fault != (api.Fault{Err: err, At: at}) || len(got) != 0 {
		t.Errorf("Lex(%q) = %v, %v, want %v at %d", short(text), got, fault, err, at)
	}
}

func writes(t *testing.T, want string, l ...api.Word) {
	t.Helper()
	if got, err := Write(l); got != want || err != api.OK {
		t.Errorf("Write(%v) = %q, %v, want %q", l, got, err, want)
	}
}

func refusesToWrite(t *testing.T, l ...api.Word) {
	t.Helper()
	if got, err := Write(l); got != "" || err != api.ErrArg {
		t.Errorf("Write(%v) = %q, %v, want ErrArg", l, got, err)
	}
}

// asRead holds Lex and Right against the second reading, and what is read against what is written.
func asRead(t *testing.T, text string) api.Fault {
	t.Helper()
	want, fault := readLex(text)
	got, f := Lex(text)
	if f != fault || !slices.Equal(got, want) {
		t.Fatalf("Lex(%q) = %v, %v, want %v, %v", text, got, f, want, fault)
	}
	if n, r := Right(text), readRight(text); n != r {
		t.Fatalf("Right(%q) = %d, want %d", text, n, r)
	}
	if fault.Err == api.OK {
		again(t, got)
	}
	return fault
}

// again is P15.4.
func again(t *testing.T, l []api.Word) {
	t.Helper()
	text, err := Write(l)
	if err != api.OK {
		t.Fatalf("Write(%v): %v", l, err)
	}
	if len(text) > api.MaxText {
		return
	}
	if got, fault := Lex(text); fault != (api.Fault{}) || !slices.Equal(plain(got), plain(l)) {
		t.Fatalf("Lex(%q) = %v, %v, want %v", text, got, fault, l)
	}
}

func times(s string, n int) string { return strings.Repeat(s, n) }
