package lex

import (
	"strings"
	"testing"

	"gimlet/api"
)

func TestExamples(t *testing.T) {
	lexes(t, "let x = \"a\\n\" (* (* *) *) in x", at([]int{0, 4, 6, 8, 26, 29}, key("let"), name("x"), sign("="), quote("a\n"), key("in"), name("x")))
	lexes(t, "'a -> B", at([]int{0, 3, 6}, variable("a"), sign("->"), con("B")))
	lexes(t, "2147483647", []api.Word{number(-1)})
	refuses(t, "2147483648", api.ErrNumber, 0)
	refuses(t, `"a`, api.ErrText, 0)
	refuses(t, "(* a", api.ErrNote, 0)
	refuses(t, "a # b", api.ErrByte, 2)
	refuses(t, `"\9"`, api.ErrText, 0)
	if Right("a\xc3\xa9\xff") != 3 || Right("\xed\xa0\x80") != 0 {
		t.Error("Right")
	}
	writes(t, `"\195\169" 2147483647`, quote("é"), number(-1))
}

func TestNothing(t *testing.T) {
	for _, text := range []string{"", " ", "\t\n\r ", "(**)", "(***)", " (* a *) ", "(*(**)*)", "(* (* *) (* *) *)", "(*)*)", "(*\"*)", "(*\x00é*)", "(* '*)"} {
		lexes(t, text, nil)
	}
}

func TestInts(t *testing.T) {
	for text, n := range map[string]int{
		"0": 0, "7": 7, "007": 7, "10": 10, "1073741823": 1<<30 - 1, "1073741824": -1 << 30, "1073741825": -1<<30 + 1,
		"2147483646": -2, "2147483647": -1, "00002147483647": -1, times("0", 500) + "12": 12, times("0", 60000): 0,
	} {
		lexes(t, text, []api.Word{number(n)})
		lexes(t, " "+text+" ", at([]int{1}, number(n)))
	}
	for _, text := range []string{"2147483648", "4294967296", "4294967297", "9223372036854775808", "18446744073709551617", "02147483648", times("9", 1000), times("9", 60000), "21474836470"} {
		refuses(t, text, api.ErrNumber, 0)
		refuses(t, "ab "+text+" \"", api.ErrNumber, 3)
	}
	says(t, "12ab", number(12), name("ab"))
	says(t, "1_", number(1), sign("_"))
	says(t, "1_1", number(1), name("_1"))
	says(t, "1'a", number(1), variable("a"))
	says(t, "-1", sign("-"), number(1))
	says(t, "1\"\"2", number(1), quote(""), number(2))
	refuses(t, "1.5", api.ErrByte, 1)
	refuses(t, "1٣", api.ErrByte, 1)
}

func TestTexts(t *testing.T) {
	for text, s := range map[string]string{
		`""`: "", `"a"`: "a", `"\n\t\"\\"`: "\n\t\"\\", `"\000\009\010\099\100\199\255"`: "\x00\x09\x0a\x63\x64\xc7\xff",
		`"é"`: "é", `"\195\169"`: "é", `"(* *)"`: "(* *)", `"'a"`: "'a", "\"\u0080~ !\"": "\u0080~ !", `"\0000"`: "\x000", `"\\n"`: `\n`,
		"\"\U0010ffff\uffff\ufffd\"": "\U0010ffff\uffff\ufffd", `"\2555"`: "\xff5", `"nt"`: "nt",
	} {
		lexes(t, text, []api.Word{quote(s)})
		says(t, text+text+"x", quote(s), quote(s), name("x"))
	}
	for _, text := range []string{
		`"`, `"a`, `"\"`, `"\`, `"\a"`, `"\r"`, `"\ "`, `"\'"`, `"\9"`, `"\99"`, `"\9`, `"\99`, `"\25`, `"\256"`, `"\260"`, `"\300"`, `"\999"`, `"\é"`, `"\1é"`, `"\12é"`, `"\x41"`, `"\N"`,
		`"\12 "`, `"\1a1"`, `"\/00"`, `"\:00"`, `"\0:0"`, `"\0/0"`, `"\00:"`, `"\00/"`, `"\-12"`, "\"\\\n\"",
		"\"\n\"", "\"\t\"", "\"\r\"", "\"\x00\"", "\"\x1f\"", "\"\x7f\"", "\"a\x1fb\"", "\"é\x7f\"",
	} {
		refuses(t, text, api.ErrText, 0)
		refuses(t, "(* *)"+text+" #", api.ErrText, 5)
	}
}

func TestNames(t *testing.T) {
	for _, s := range []string{"a", "z", "x1", "x'", "_x", "__", "_1", "_'", "_A", "aZ_'09", "lets", "let'", "le", "_let", "inn", "mod2", "truE", "and_"} {
		lexes(t, s, []api.Word{name(s)})
		says(t, s+" "+s, name(s), name(s))
	}
	for _, s := range []string{"A", "Z", "Let", "A'_9z", "AND", "B'"} {
		lexes(t, s, []api.Word{con(s)})
	}
	for _, s := range []string{"a", "z", "a'", "let", "a_B9'", "mod"} {
		lexes(t, "'"+s, []api.Word{variable(s)})
	}
	says(t, "_", sign("_"))
	says(t, "_ _x", sign("_"), name("_x"))
	says(t, "a-b", name("a"), sign("-"), name("b"))
	says(t, "a'b'c", name("a'b'c"))
	says(t, "a 'b'c", name("a"), variable("b'c"))
	for _, s := range []string{"'", "''", "'A", "'_", "'_a", "'1", "' a", "''a", "'é"} {
		refuses(t, s, api.ErrByte, 0)
		refuses(t, "A "+s, api.ErrByte, 2)
	}
	refuses(t, "aé", api.ErrByte, 1)
	refuses(t, "'aé", api.ErrByte, 2)
}

// Characters above 127 are no letters or digits, even if what is left of them in one byte would be.
func TestOtherCharacters(t *testing.T) {
	for _, c := range []string{"š", "ǡ", "İ", "ɟ", "ȧ", "\U00010041"} {
		refuses(t, "a"+c, api.ErrByte, 1)
		refuses(t, "A"+c, api.ErrByte, 1)
		refuses(t, "'a"+c, api.ErrByte, 2)
		refuses(t, "'"+c, api.ErrByte, 0)
		refuses(t, "1"+c, api.ErrByte, 1)
		refuses(t, "; "+c, api.ErrByte, 2)
		refuses(t, `"\1`+c+`"`, api.ErrText, 0)
		refuses(t, `"\`+c+`1"`, api.ErrText, 0)
		refuses(t, `"\`+c+`"`, api.ErrText, 0)
		says(t, `"`+c+`"`, quote(c))
		says(t, "(*"+c+"*)")
		refusesToWrite(t, name("a"+c))
		refusesToWrite(t, name(c))
		refusesToWrite(t, con("A"+c))
		refusesToWrite(t, variable("a"+c))
	}
}

func TestKeys(t *testing.T) {
	for _, s := range strings.Fields(readKeys) {
		lexes(t, s, []api.Word{key(s)})
		says(t, s+"("+s, key(s), sign("("), key(s))
		says(t, s+"0 "+s+"_ "+s+"' "+s+s, name(s+"0"), name(s+"_"), name(s+"'"), name(s+s))
		says(t, "'"+s, variable(s))
	}
}

func TestSigns(t *testing.T) {
	for _, s := range strings.Fields(";; := -> <= ; ( ) , = < + - * / | ! _") {
		lexes(t, s, []api.Word{sign(s)})
	}
	says(t, ";;;", sign(";;"), sign(";"))
	says(t, ";;;;", sign(";;"), sign(";;"))
	says(t, "; ;", sign(";"), sign(";"))
	says(t, "-->", sign("-"), sign("->"))
	says(t, "<-", sign("<"), sign("-"))
	says(t, "=<=", sign("="), sign("<="))
	says(t, "<==", sign("<="), sign("="))
	says(t, "a:=b", name("a"), sign(":="), name("b"))
	says(t, "*)", sign("*"), sign(")"))
	says(t, "( *)", sign("("), sign("*"), sign(")"))
	says(t, "()", sign("("), sign(")"))
	says(t, "_-_", sign("_"), sign("-"), sign("_"))
}

// All characters below 256, and some others, alone, behind a blank, and behind a word.
func TestBytes(t *testing.T) {
	begin := "\t\n\r abcdefghijklmnopqrstuvwxyzABCDEFGHIJKLMNOPQRSTUVWXYZ_0123456789;(),=<+-*/|!"
	for _, r := range append([]rune{0x2028, 0xfeff, 0xfffd, 0x10ffff}, []rune(latin())...) {
		c := string(r)
		if strings.Contains(begin, c) {
			if _, fault := Lex(c); fault.Err != api.OK {
				t.Errorf("Lex(%q): %v", c, fault)
			}
			continue
		}
		err := api.ErrByte
		if c == `"` {
			err = api.ErrText
		}
		refuses(t, c, err, 0)
		refuses(t, " "+c, err, 1)
		refuses(t, "(**) 12"+c, err, 7)
	}
}

func latin() string {
	var all []rune
	for r := range rune(256) {
		all = append(all, r)
	}
	return string(all)
}

func TestNotes(t *testing.T) {
	says(t, "a(* \" *)b", name("a"), name("b"))
	says(t, "a(*b*)c(*d*)e", name("a"), name("c"), name("e"))
	says(t, "a(*(*b*)c*)d", name("a"), name("d"))
	says(t, "let(**)ter", key("let"), name("ter"))
	says(t, "<(**)=", sign("<"), sign("="))
	says(t, "(*****)1", number(1))
	says(t, "((*)*))", sign("("), sign(")"))
	lexes(t, "(*é*) x", at([]int{7}, name("x")))
	refuses(t, "-(**)>", api.ErrByte, 5)
	refuses(t, "(* \"*)\" (*", api.ErrText, 6)
	refuses(t, "\"(*\"*)(*", api.ErrNote, 6)
}

func TestNotesThatDoNotEnd(t *testing.T) {
	for _, text := range []string{"(*", "(*)", "(* a", "(* *", "(* (* *)", "(*(*)*)", "(* (* *) ", "(*(*(**)*)", "(* )", "(*é"} {
		refuses(t, text, api.ErrNote, 0)
		refuses(t, "a \"b\""+text, api.ErrNote, 5)
	}
}
