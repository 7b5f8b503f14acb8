package lex

import "testing"

func isRight(t *testing.T, s string) {
	t.Helper()
	if got, want := Right(s), readRight(s); got != want {
		t.Fatalf("Right(%q) = %d, want %d", s, got, want)
	}
}

func TestRightRows(t *testing.T) {
	for s, want := range map[string]int{
		"":                     0,
		"abc":                  3,
		"a\xc3\xa9\xff":        3,
		"\xed\xa0\x80":         0,
		"\xed\x9f\xbf":         3,
		"\xed\xbf\xbf":         0,
		"\xee\x80\x80":         3,
		"\xf4\x8f\xbf\xbf":     4,
		"\xf4\x90\x80\x80":     0,
		"\xf5\x80\x80\x80":     0,
		"x\x80":                1,
		"\xc0\x80":             0,
		"\xc1\xbf":             0,
		"\xc2\x80":             2,
		"\xe0\x9f\xbf":         0,
		"\xe0\xa0\x80":         3,
		"\xf0\x8f\xbf\xbf":     0,
		"\xf0\x90\x80\x80":     4,
		"\xef\xbf\xbd":         3,
		"\xef\xbf\xbd\xef\xbf": 3,
		"ab\xe2\x82":           2,
		"ab\xf0\x9f\x98":       2,
		"\x00\x7f":             2,
		"\xe2\x82\xacx\xe2a":   4,
		"\xef\xbf\xbf\xef\xbf\xbd\xf0\x9f\x98\x80": 10,
	} {
		if got := Right(s); got != want {
			t.Errorf("Right(%q) = %d, want %d", s, got, want)
		}
		isRight(t, s)
	}
}

// All texts of up to two bytes, and all of up to four of those at the edges of the standard's table.
func TestRightAll(t *testing.T) {
	for a := range 256 {
		isRight(t, string([]byte{byte(a)}))
		for b := range 256 {
			isRight(t, string([]byte{byte(a), byte(b)}))
		}
	}
	edges := []byte{0, 0x7f, 0x80, 0x8f, 0x90, 0x9f, 0xa0, 0xbf, 0xc0, 0xc1, 0xc2, 0xdf, 0xe0, 0xe1, 0xec, 0xed, 0xee, 0xef, 0xf0, 0xf1, 0xf3, 0xf4, 0xf5, 0xff}
	for _, a := range edges {
		for _, b := range edges {
			for _, c := range edges {
				isRight(t, string([]byte{a, b, c}))
				for _, d := range edges {
					isRight(t, string([]byte{a, b, c, d}))
				}
			}
		}
	}
}

// Every character, alone and behind others, is valid; without its last byte it is not.
func TestRightCharacters(t *testing.T) {
	for n := range 0x110000 {
		s := characterBytes(n)
		want, cut := len(s), 0
		if n >= 0xd800 && n <= 0xdfff {
			want = 0
		}
		if got := Right(s); got != want {
			t.Fatalf("Right(%q) = %d, want %d", s, got, want)
		}
		if len(s) > 1 {
			if got := Right(s[:len(s)-1]); got != cut {
				t.Fatalf("Right(%q) = %d, want %d", s[:len(s)-1], got, cut)
			}
		}
	}
}
