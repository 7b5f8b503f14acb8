package lex

import (
	"slices"
	"strconv"
	"strings"

	"gimlet/api"
)

// Write returns words as a text, with one blank between each two.
func Write(l []api.Word) (string, api.Errno) {
	for _, w := range l {
		if !isWord(w) {
			return "", api.ErrArg
		}
	}
	var text strings.Builder
	for i, w := range l {
		if i > 0 {
			text.WriteByte(' ')
		}
		text.WriteString(written(w))
	}
	return text.String(), api.OK
}

// isWord tells whether Lex returns w for some text.
func isWord(w api.Word) bool {
	if w.Kind == api.WordInt {
		return w.S == "" && api.MinInt <= w.N && w.N <= api.MaxInt
	}
	if w.N != 0 {
		return false
	}
	switch w.Kind {
	case api.WordText:
		return len(w.S) <= api.MaxString
	case api.WordName:
		return w.S != "_" && !slices.Contains(keys, w.S) && isName(w.S, beginsName)
	case api.WordCon:
		return isName(w.S, isGreat)
	case api.WordVar:
		return isName(w.S, isSmall)
	case api.WordKey:
		return slices.Contains(keys, w.S)
	case api.WordSign:
		return slices.Contains(signs, w.S)
	}
	return false
}

// isName tells whether s is letters, not too many, the first of which is of a class.
func isName(s string, begins func(c byte) bool) bool {
	return s != "" && len(s) <= api.MaxName && begins(s[0]) && run(s, isLetter) == s
}

// written returns a word's own text.
func written(w api.Word) string {
	switch {
	case w.Kind == api.WordText:
		return quoted(w.S)
	case w.Kind == api.WordVar:
		return "'" + w.S
	case w.Kind != api.WordInt:
		return w.S
	case w.N < 0:
		return strconv.Itoa(w.N + maxNumber + 1)
	}
	return strconv.Itoa(w.N)
}

// quoted goes byte by byte, since these need not be characters.
func quoted(s string) string {
	out := []byte{'"'}
	for _, c := range []byte(s) {
		switch {
		case c < 32 || c >= 127:
			out = append(out, '\\', '0'+c/100, '0'+c/10%10, '0'+c%10)
		case c == '"' || c == '\\':
			out = append(out, '\\', c)
		default:
			out = append(out, c)
		}
	}
	return string(append(out, '"'))
}
