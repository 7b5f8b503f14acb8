package lex

import (
	"testing"

	"gimlet/api"
)

// All texts of up to four of these characters.
func TestShortTexts(t *testing.T) {
	characters := []string{"a", "Z", "_", "'", "7", "\"", "\\", "n", "(", "*", ")", ";", ":", "=", "-", ">", "<", " ", "\n", "é", "#", "\x7f", "\xff"}
	asRead(t, "")
	for _, a := range characters {
		asRead(t, a)
		for _, b := range characters {
			asRead(t, a+b)
			for _, c := range characters {
				asRead(t, a+b+c)
				for _, d := range characters {
					asRead(t, a+b+c+d)
				}
			}
		}
	}
}

// All texts of up to eight of the characters that notes are made of.
func TestShortNotes(t *testing.T) {
	characters := []string{"(", "*", ")", "x"}
	all := []string{""}
	for range 8 {
		var longer []string
		for _, s := range all {
			asRead(t, s)
			for _, c := range characters {
				longer = append(longer, s+c)
			}
		}
		all = longer
	}
	for _, s := range all {
		asRead(t, s)
	}
}

// All three digits, and some that are none, behind a \.
func TestEscapes(t *testing.T) {
	characters := []string{"0", "1", "2", "3", "4", "5", "6", "7", "8", "9", "/", ":", "n", "t", "\"", "\\", " ", "é", "\n"}
	for _, a := range characters {
		for _, b := range characters {
			for _, c := range characters {
				asRead(t, `"\`+a+b+c+`"`)
				asRead(t, `"\`+a+b+c+`" x "`)
			}
		}
	}
}

func pieces() []string {
	return []string{"let", "in", "rec", "match", "true", "a", "x1", "foo'", "_x", "_", "Nil", "Cons", "'a", "'b1", "0", "1", "42", "1073741824", "2147483647", "007",
		`""`, `"a b"`, `"\n\065"`, `"é"`, "(* n *)", "(* (* *) *)", "(**)", ";;", ":=", "->", "<=", ";", "(", ")", ",", "=", "<", "+", "-", "*", "/", "|", "!", " ", " ", " ", "\n", "\t", "\r"}
}

func wrong() []string {
	return []string{"#", "'", ":", ">", "\"", "(*", "*)", "\\", "2147483648", "é", "\x00", "\x7f", "\x80", "\xed\xa0\x80", `"\256"`, `"\q"`, times("y", 65), "'" + times("y", 65), "Y" + times("y", 64)}
}

func TestSeries(t *testing.T) {
	d := dice(15)
	found := map[api.Errno]int{}
	for range 30000 {
		text := ""
		for range d.below(30) {
			text += d.of(pieces())
			if d.below(40) == 0 {
				text += d.of(wrong())
			}
		}
		found[asRead(t, text).Err]++
	}
	for _, err := range []api.Errno{api.OK, api.ErrUTF, api.ErrByte, api.ErrText, api.ErrNote, api.ErrNumber, api.ErrName} {
		if found[err] < 100 {
			t.Errorf("%v: %d times", err, found[err])
		}
	}
}
