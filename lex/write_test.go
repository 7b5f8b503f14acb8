package lex

import (
	"math"
	"slices"
	"strings"
	"testing"

	"gimlet/api"
)

func TestWriteRows(t *testing.T) {
	writes(t, "")
	writes(t, "0", number(0))
	writes(t, "1073741823", number(api.MaxInt))
	writes(t, "1073741824", number(api.MinInt))
	writes(t, "2147483647", number(-1))
	writes(t, "2147483646 5", number(-2), number(5))
	writes(t, `""`, quote(""))
	writes(t, `"\010\009\031 !~\127\128\255"`, quote("\n\t\x1f !~\x7f\x80\xff"))
	writes(t, `"\\n\"\000"`, quote("\\n\"\x00"))
	writes(t, `"\194\128" "'"`, quote("\u0080"), quote("'"))
	writes(t, "a _b X'", name("a"), name("_b"), con("X'"))
	writes(t, "'a 'let", variable("a"), variable("let"))
	writes(t, "let in _ ;; ( * )", key("let"), key("in"), sign("_"), sign(";;"), sign("("), sign("*"), sign(")"))
	writes(t, "( - < ; ;", sign("("), sign("-"), sign("<"), sign(";"), sign(";"))
}

func TestWriteIgnoresPlaces(t *testing.T) {
	l := []api.Word{number(1), quote("a"), name("a"), con("A"), variable("a"), key("in"), sign(";")}
	for _, place := range []int{0, 1, -1, 7, 65537, math.MaxInt, math.MinInt} {
		for i := range l {
			l[i].At = place
		}
		writes(t, `1 "a" a A 'a in ;`, l...)
	}
}

// What each kind's text may not be, and fields that Lex leaves zero.
func TestWriteRefuses(t *testing.T) {
	for _, w := range []api.Word{
		number(1 << 30), number(-1<<30 - 1), number(1 << 31), number(math.MaxInt), number(math.MinInt), {Kind: 1, N: 1, S: "1"}, {Kind: 1, S: "0"},
		{Kind: 2, N: 1, S: "a"}, {Kind: 2, N: -1}, {Kind: 3, N: 1, S: "a"}, {Kind: 4, N: 1, S: "A"}, {Kind: 5, N: 1, S: "a"}, {Kind: 6, N: 1, S: "in"}, {Kind: 7, N: 1, S: ";"},
		name(""), name("_"), name("let"), name("A"), name("'a"), name("1"), name("a b"), name("a-"), name("aé"), name("é"), name("a\xff"), name("a "), name(" a"), name("a(**)"), name("#"),
		con(""), con("a"), con("_A"), con("'A"), con("A B"), con("Aé"), con("É"), con("1A"), con("A\n"),
		variable(""), variable("_"), variable("_a"), variable("A"), variable("'a"), variable("a b"), variable("aé"), variable("1"),
		key(""), key("a"), key("Let"), key("let "), key("letin"), key("_"), key("and begin"),
		sign(""), sign("a"), sign(">"), sign(":"), sign(";;;"), sign("- >"), sign("(*"), sign("let"), sign("#"), sign("()"),
		{}, {Kind: 8}, {Kind: -1}, {Kind: 8, S: "a"}, {Kind: 0, S: "a"}, {Kind: 1 << 32, S: "a"},
	} {
		refusesToWrite(t, w)
		refusesToWrite(t, w, number(1))
		refusesToWrite(t, number(1), key("in"), w)
		refusesToWrite(t, name("a"), w, w)
	}
}

// A text of all bytes is written so that its words are read again.
func TestWriteBytes(t *testing.T) {
	for c := range 256 {
		for _, s := range []string{string([]byte{byte(c)}), string([]byte{byte(c), byte(c)}), "0" + string([]byte{byte(c)}) + "9"} {
			w := quote(s)
			writes(t, readWritten(w), w)
			again(t, []api.Word{w, w})
		}
	}
}

// Words of any text, right or wrong, against the second reading.
func TestWriteSeries(t *testing.T) {
	d := dice(16)
	texts := append(pieces(), wrong()...)
	right := 0
	for range 20000 {
		var l []api.Word
		for range d.below(4) {
			w := api.Word{Kind: d.below(9), S: strings.TrimLeft(d.of(texts), "'"), At: d.below(9)}
			if d.below(9) == 0 {
				w.S += d.of(texts)
			}
			if w.Kind == 1 && d.below(9) > 0 {
				w.S, w.N = "", []int{0, 1, -1, 1 << 30, 1<<30 - 1, -1 << 30, -1<<30 - 1, 77}[d.below(8)]
			}
			l = append(l, w)
		}
		want, fault := readWrite(l)
		got, err := Write(l)
		if got != want || err != fault {
			t.Fatalf("Write(%v) = %q, %v, want %q, %v", l, got, err, want, fault)
		}
		if err == api.OK {
			right++
			again(t, l)
		}
	}
	if right < 3000 {
		t.Error(right)
	}
}

// Arguments stay as they are, spare capacity too, and the same arguments have the same results.
func TestApart(t *testing.T) {
	l := []api.Word{name("a"), quote("é"), number(-1), key("in")}
	kept := slices.Clone(l)
	first, _ := Write(l[:3])
	second, _ := Write(l[:3:3])
	if !slices.Equal(l, kept) || first != second || first != `a "\195\169" 2147483647` {
		t.Error(l, first, second)
	}
	text := "let x = 'a \"b\" 12"
	one, _ := Lex(text)
	two, _ := Lex(text)
	for i := range one {
		one[i] = api.Word{}
	}
	for i, w := range one[len(one):cap(one)] {
		if w != (api.Word{}) {
			t.Error(i, w)
		}
	}
	if len(two) != 6 || two[0] != key("let") {
		t.Error(two)
	}
	lexes(t, text, two)
}

// More words than a text may have are written, though Lex does not take them.
func TestWriteMany(t *testing.T) {
	l := make([]api.Word, 100000)
	for i := range l {
		l[i] = sign(";;")
	}
	text, err := Write(l)
	if err != api.OK || text != strings.TrimSuffix(times(";; ", 100000), " ") {
		t.Error(len(text), err)
	}
	refuses(t, text, api.ErrLong, 0)
}
