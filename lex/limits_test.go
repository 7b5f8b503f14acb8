package lex

import (
	"testing"

	"gimlet/api"
)

func TestTextsLength(t *testing.T) {
	lexes(t, times(" ", 65536), nil)
	refuses(t, times(" ", 65537), api.ErrLong, 0)
	refuses(t, times("\xff", 65537), api.ErrLong, 0)
	refuses(t, times("#", 65537), api.ErrLong, 0)
	refuses(t, times("#", 65536), api.ErrByte, 0)
	refuses(t, times(" ", 65535)+"\xff", api.ErrUTF, 65535)
	refuses(t, times("é", 32768)+" ", api.ErrLong, 0)
	refuses(t, times("é", 32767)+"\xc3", api.ErrUTF, 65534)
	refuses(t, times(" ", 65535)+"'", api.ErrByte, 65535)
	lexes(t, times(" ", 65535)+"x", at([]int{65535}, name("x")))
	lexes(t, "(*"+times("*", 65532)+"*)", nil)
	lexes(t, times("(*", 16384)+times("*)", 16384), nil)
	refuses(t, times("(*", 32768), api.ErrNote, 0)
	refuses(t, times("(*", 16385)+times("*)", 16383), api.ErrNote, 0)
	if l, fault := Lex(times(";", 65536)); len(l) != 32768 || fault.Err != api.OK || l[32767] != (api.Word{Kind: api.WordSign, S: ";;", At: 65534}) {
		t.Error(len(l), fault)
	}
	if l, fault := Lex(times("-", 65536)); len(l) != 65536 || fault.Err != api.OK || l[65535] != (api.Word{Kind: api.WordSign, S: "-", At: 65535}) {
		t.Error(len(l), fault)
	}
}

func TestNamesLength(t *testing.T) {
	for _, c := range []string{"x", "_", "A"} {
		long := c + times("y", 63)
		w := name(long)
		if c == "A" {
			w = con(long)
		}
		lexes(t, long, []api.Word{w})
		says(t, long+"("+long+" "+long, w, sign("("), w, w)
		refuses(t, long+"y", api.ErrName, 0)
		refuses(t, "x "+long+"' (*", api.ErrName, 2)
		refuses(t, long+times("y", 60000), api.ErrName, 0)
		writes(t, long, w)
		w.S += "y"
		refusesToWrite(t, w)
	}
	long := times("x", 64)
	lexes(t, "'"+long, []api.Word{variable(long)})
	refuses(t, "'"+long+"x", api.ErrName, 0)
	refuses(t, " '"+long+"x", api.ErrName, 1)
	writes(t, "'"+long, variable(long))
	refusesToWrite(t, variable(long+"x"))
}

func TestStringsLength(t *testing.T) {
	for _, c := range []struct{ text, says string }{{"a", "a"}, {`\000`, "\x00"}, {`\\`, `\`}, {"é", "é"}, {`\195\169`, "é"}} {
		each := len(c.says)
		full := quote(times(c.says, 4096/each))
		lexes(t, `"`+times(c.text, 4096/each)+`"`, []api.Word{full})
		refuses(t, `"`+times(c.text, 4096/each)+`b"`, api.ErrName, 0)
		refuses(t, `x"b`+times(c.text, 4096/each)+`"`, api.ErrName, 1)
		refuses(t, `"`+times(c.text, 4096/each)+`b`, api.ErrText, 0)
		refuses(t, `"b`+times(c.text, 4096/each)+"\n\"", api.ErrText, 0)
		refuses(t, `"b`+times(c.text, 4096/each)+`\q"`, api.ErrText, 0)
		again(t, []api.Word{full})
		full.S += "b"
		refusesToWrite(t, full)
	}
	refuses(t, `"`+times("a", 60000)+`"`, api.ErrName, 0)
	refuses(t, `"`+times("a", 60000), api.ErrText, 0)
}

// What is not UTF-8 anywhere comes ahead of what is wrong earlier; of the other faults the first place counts.
func TestFirstFault(t *testing.T) {
	for _, text := range []string{"#", "(*", "\"", "2147483648", times("x", 65), `"` + times("x", 4097) + `"`} {
		refuses(t, text+" \x80", api.ErrUTF, len(text)+1)
		_, fault := Lex(text)
		for _, other := range []string{"#", "(* ", "\"\\", "99999999999", times("A", 65)} {
			if text != "(*" && text != "\"" {
				refuses(t, text+" "+other, fault.Err, 0)
			}
			refuses(t, "a\n"+text+"\n"+text, fault.Err, 2)
		}
	}
	refuses(t, "\"a\xffb\"", api.ErrUTF, 2)
	refuses(t, "(*\xed\xa0\x80*)", api.ErrUTF, 2)
}
