package lex

import (
	"slices"
	"strings"
	"unicode/utf8"

	"gimlet/api"
)

// The longest ones first: the first one that a text begins with is the one to cut.
var signs = []string{";;", ":=", "->", "<=", ";", "(", ")", ",", "=", "<", "+", "-", "*", "/", "|", "!", "_"}

var keys = []string{"and", "begin", "else", "end", "exception", "false", "fun", "if", "in", "let", "match", "mod", "of", "raise", "rec", "then", "true", "try", "type", "with"}

// maxNumber is the greatest number that a text may have; those above MaxInt stand for negative ones.
const maxNumber = api.MaxInt - api.MinInt

func beginsNote(s string) bool { return strings.HasPrefix(s, "(*") }

// noteSize returns how many bytes the note has that s begins with; 0 if it does not end.
func noteSize(s string) int {
	open, next := 0, 0
	for i := range s {
		switch {
		case i < next:
			// This byte is the second one of a sign.
		case beginsNote(s[i:]):
			open, next = open+1, i+2
		case strings.HasPrefix(s[i:], "*)"):
			open, next = open-1, i+2
			if open == 0 {
				return next
			}
		}
	}
	return 0
}

func cutInt(s string) (api.Word, int, api.Errno) {
	digits := run(s, isDigit)
	n := 0
	for _, r := range digits {
		n = 10*n + int(r-'0')
		if n > maxNumber {
			return api.Word{}, 0, api.ErrNumber
		}
	}
	if n > api.MaxInt {
		n -= maxNumber + 1
	}
	return api.Word{Kind: api.WordInt, N: n}, len(digits), api.OK
}

func cutText(s string) (api.Word, int, api.Errno) {
	var says []byte
	next := 1
	for i, r := range s {
		switch {
		case i < next:
			// This byte is the first quote, or belongs to an escape.
		case r == '"':
			if len(says) > api.MaxString {
				return api.Word{}, 0, api.ErrName
			}
			return api.Word{Kind: api.WordText, S: string(says)}, i + 1, api.OK
		case r == '\\':
			c, size := escaped(s[i+1:])
			if size == 0 {
				return api.Word{}, 0, api.ErrText
			}
			says = append(says, c)
			next = i + 1 + size
		case isControl(r):
			return api.Word{}, 0, api.ErrText
		default:
			says = utf8.AppendRune(says, r)
		}
	}
	return api.Word{}, 0, api.ErrText
}

// escaped returns the byte that the escape at the beginning of s, which comes after a \, stands for, and how many bytes it has: 0 if it is none.
func escaped(s string) (byte, int) {
	switch {
	case strings.HasPrefix(s, "n"):
		return '\n', 1
	case strings.HasPrefix(s, "t"):
		return '\t', 1
	case strings.HasPrefix(s, `"`), strings.HasPrefix(s, `\`):
		return s[0], 1
	case len(s) < 3 || len(run(s[:3], isDigit)) < 3:
		return 0, 0
	}
	n := 100*int(s[0]-'0') + 10*int(s[1]-'0') + int(s[2]-'0')
	if n > 255 {
		return 0, 0
	}
	return byte(n), 3
}

func isControl(r rune) bool { return r < 32 || r == 127 }

func cutVar(s string) (api.Word, int, api.Errno) {
	name := run(s[1:], isLetter)
	switch {
	case name == "" || !isSmall(name[0]):
		return api.Word{}, 0, api.ErrByte
	case len(name) > api.MaxName:
		return api.Word{}, 0, api.ErrName
	}
	return api.Word{Kind: api.WordVar, S: strings.Clone(name)}, 1 + len(name), api.OK
}

func cutCon(s string) (api.Word, int, api.Errno) {
	name := run(s, isLetter)
	if len(name) > api.MaxName {
		return api.Word{}, 0, api.ErrName
	}
	return api.Word{Kind: api.WordCon, S: strings.Clone(name)}, len(name), api.OK
}

// cutName cuts a name, or what is a word of another kind although it looks like one.
func cutName(s string) (api.Word, int, api.Errno) {
	name := run(s, isLetter)
	switch {
	case name == "_":
		return cutSign(s)
	case slices.Contains(keys, name):
		return api.Word{Kind: api.WordKey, S: strings.Clone(name)}, len(name), api.OK
	case len(name) > api.MaxName:
		return api.Word{}, 0, api.ErrName
	}
	return api.Word{Kind: api.WordName, S: strings.Clone(name)}, len(name), api.OK
}

func cutSign(s string) (api.Word, int, api.Errno) {
	for _, sign := range signs {
		if strings.HasPrefix(s, sign) {
			return api.Word{Kind: api.WordSign, S: sign}, len(sign), api.OK
		}
	}
	return api.Word{}, 0, api.ErrByte
}
