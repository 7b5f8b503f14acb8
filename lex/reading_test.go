package lex

import (
	"regexp"
	"slices"
	"strconv"
	"strings"

	"gimlet/api"
)

// This is a second reading of the chapter: the words' kinds as regular expressions, of which the longest match is taken.

func longest(pattern string) *regexp.Regexp {
	r := regexp.MustCompile("^(?:" + pattern + ")")
	r.Longest()
	return r
}

var (
	readInt    = longest(`[0-9]+`)
	readText   = longest(`"([^"\\\x00-\x1f\x7f]|\\[nt"\\]|\\[01][0-9][0-9]|\\2[0-4][0-9]|\\25[0-5])*"`)
	readName   = longest(`[a-z_][a-zA-Z0-9_']*`)
	readCon    = longest(`[A-Z][a-zA-Z0-9_']*`)
	readVar    = longest(`'[a-z][a-zA-Z0-9_']*`)
	readSign   = longest(`;;|:=|->|<=|;|\(|\)|,|=|<|\+|-|\*|/|\||!|_`)
	readBlanks = longest("[\t\n\r ]+")
	readEscape = regexp.MustCompile(`\\(?:[nt"\\]|[0-9][0-9][0-9])`)
)

const readKeys = "and begin else end exception false fun if in let match mod of raise rec then true try type with"

// readRight tries each character's bytes, made by the definition of UTF-8.
func readRight(s string) int {
	at := 0
	for at < len(s) {
		width := readCharacter(s[at:])
		if width == 0 {
			break
		}
		at += width
	}
	return at
}

func readCharacter(s string) int {
	for width, first := range []int{0, 192, 224, 240} {
		if width >= len(s) {
			break
		}
		n := int(s[0]) - first
		for _, c := range []byte(s[1 : width+1]) {
			n = n*64 + int(c) - 128
		}
		if n >= 0 && n <= 0x10ffff && (n < 0xd800 || n > 0xdfff) && characterBytes(n) == s[:width+1] {
			return width + 1
		}
	}
	return 0
}

func characterBytes(n int) string {
	switch {
	case n < 1<<7:
		return string([]byte{byte(n)})
	case n < 1<<11:
		return string([]byte{byte(192 + n/64), byte(128 + n%64)})
	case n < 1<<16:
		return string([]byte{byte(224 + n/4096), byte(128 + n/64%64), byte(128 + n%64)})
	}
	return string([]byte{byte(240 + n/262144), byte(128 + n/4096%64), byte(128 + n/64%64), byte(128 + n%64)})
}

// readNote returns how long the note is that s begins with; -1 if it does not end.
func readNote(s string) int {
	at := 2
	for at < len(s) {
		switch {
		case strings.HasPrefix(s[at:], "*)"):
			return at + 2
		case strings.HasPrefix(s[at:], "(*"):
			inner := readNote(s[at:])
			if inner < 0 {
				return -1
			}
			at += inner
		default:
			at++
		}
	}
	return -1
}

func readNumber(digits string) (int, api.Errno) {
	short := strings.TrimLeft(digits, "0")
	if len(short) > 10 || len(short) == 10 && short > "2147483647" {
		return 0, api.ErrNumber
	}
	n, _ := strconv.ParseInt("0"+short, 10, 64)
	return int(int32(uint32(n)<<1) >> 1), api.OK
}

func readEscapes(s string) string {
	return readEscape.ReplaceAllStringFunc(s, func(e string) string {
		switch e[1:] {
		case "n":
			return "\n"
		case "t":
			return "\t"
		case `"`, `\`:
			return e[1:]
		}
		n, _ := strconv.Atoi(e[1:])
		return string([]byte{byte(n)})
	})
}

// readWord is the word that s begins with, its text, and what is wrong with it.
func readWord(s string) (api.Word, string, api.Errno) {
	if t := readInt.FindString(s); t != "" {
		n, err := readNumber(t)
		return api.Word{Kind: 1, N: n}, t, err
	}
	if s[0] == '"' {
		t := readText.FindString(s)
		if t == "" {
			return api.Word{}, "", api.ErrText
		}
		w := api.Word{Kind: 2, S: readEscapes(t[1 : len(t)-1])}
		return w, t, readTooLong(w.S, 4096)
	}
	if t := readVar.FindString(s); t != "" {
		return api.Word{Kind: 5, S: t[1:]}, t, readTooLong(t[1:], 64)
	}
	if t := readCon.FindString(s); t != "" {
		return api.Word{Kind: 4, S: t}, t, readTooLong(t, 64)
	}
	t := readName.FindString(s)
	if slices.Contains(strings.Fields(readKeys), t) {
		return api.Word{Kind: 6, S: t}, t, api.OK
	}
	if t != "" && t != "_" {
		return api.Word{Kind: 3, S: t}, t, readTooLong(t, 64)
	}
	if t = readSign.FindString(s); t != "" {
		return api.Word{Kind: 7, S: t}, t, api.OK
	}
	return api.Word{}, "", api.ErrByte
}

func readTooLong(s string, most int) api.Errno {
	if len(s) > most {
		return api.ErrName
	}
	return api.OK
}

// readLex is P15.2.
func readLex(text string) ([]api.Word, api.Fault) {
	if len(text) > 65536 {
		return nil, api.Fault{Err: api.ErrLong}
	}
	if n := readRight(text); n < len(text) {
		return nil, api.Fault{Err: api.ErrUTF, At: n}
	}
	var l []api.Word
	for at := 0; at < len(text); {
		if blanks := readBlanks.FindString(text[at:]); blanks != "" {
			at += len(blanks)
			continue
		}
		if strings.HasPrefix(text[at:], "(*") {
			n := readNote(text[at:])
			if n < 0 {
				return nil, api.Fault{Err: api.ErrNote, At: at}
			}
			at += n
			continue
		}
		w, t, err := readWord(text[at:])
		if err != api.OK {
			return nil, api.Fault{Err: err, At: at}
		}
		w.At = at
		l = append(l, w)
		at += len(t)
	}
	return l, api.Fault{}
}

// readWritten is a word's own text.
func readWritten(w api.Word) string {
	switch {
	case w.Kind == 1 && w.N < 0:
		return strconv.Itoa(w.N + 1<<31)
	case w.Kind == 1:
		return strconv.Itoa(w.N)
	case w.Kind == 5:
		return "'" + w.S
	case w.Kind != 2:
		return w.S
	}
	out := `"`
	for i := range len(w.S) {
		switch c := w.S[i]; {
		case c == '"':
			out += `\"`
		case c == '\\':
			out += `\\`
		case c < ' ' || c > '~':
			digits := "00" + strconv.Itoa(int(c))
			out += `\` + digits[len(digits)-3:]
		default:
			out += string([]byte{c})
		}
	}
	return out + `"`
}

// readWrite is P15.3: a word is one that Lex returns if it is read from its own text.
func readWrite(l []api.Word) (string, api.Errno) {
	var texts []string
	for _, w := range l {
		w.At = 0
		t := readWritten(w)
		got, fault := readLex(t)
		if fault.Err != api.OK || len(got) != 1 || got[0] != w {
			return "", api.ErrArg
		}
		texts = append(texts, t)
	}
	return strings.Join(texts, " "), api.OK
}
