package name

import (
	"bytes"
	"math"
	"slices"
	"strings"
	"testing"

	"gimlet/api"
)

// isRune is the chapter's definition of a rune.
func isRune(n int) bool { return n >= 0 && n <= 1114111 && (n < 55296 || n > 57343) }

// runeBytes are a rune's bytes by the chapter's definition, without the library: six bits to each byte from the last one on, what is left to the first.
func runeBytes(r int) []byte {
	switch {
	case r <= 127:
		return []byte{byte(r)}
	case r <= 2047:
		return []byte{byte(192 + r/64), byte(128 + r%64)}
	case r <= 65535:
		return []byte{byte(224 + r/4096), byte(128 + r/64%64), byte(128 + r%64)}
	}
	return []byte{byte(240 + r/262144), byte(128 + r/4096%64), byte(128 + r/64%64), byte(128 + r%64)}
}

// firstRune tries each number of bytes: the only rune that so many bytes can be is the one whose bytes they are.
func firstRune(b []byte) (r, width int) {
	for width, first := range []int{0, 192, 224, 240} {
		if width >= len(b) {
			break
		}
		n := int(b[0]) - first
		for _, c := range b[1 : width+1] {
			n = n*64 + int(c) - 128
		}
		if isRune(n) && bytes.Equal(runeBytes(n), b[:width+1]) {
			return n, width + 1
		}
	}
	return 0, 0
}

// read is the chapter's P2.1, said another way: the runes of b, and the place where it is not a text of them.
func read(b []byte) ([]int, int) {
	var l []int
	for at := 0; at < len(b); {
		r, width := firstRune(b[at:])
		if width == 0 {
			return nil, at
		}
		l = append(l, r)
		at += width
	}
	return l, -1
}

// checkRead holds Bad and Runes against read, and what is read against what is written.
func checkRead(t *testing.T, b []byte) {
	t.Helper()
	l, place := read(b)
	if n := Bad(b); n != place {
		t.Fatalf("Bad(%v) = %d, want %d", b, n, place)
	}
	want := api.Fault{}
	if place >= 0 {
		want = api.Fault{Err: api.ErrBytes, At: place}
	}
	got, f := Runes(b)
	if f != want || !slices.Equal(got, l) {
		t.Fatalf("Runes(%v) = %v, %v; want %v, %v", b, got, f, l, want)
	}
	if text, e := Of(got); place < 0 && (e != api.OK || !bytes.Equal(text, b)) {
		t.Fatalf("Of(%v) = %v, %v; want %v, of which these are the runes", got, text, e, b)
	}
}

// edgeBytes lie at an edge of some rule: what may begin a rune of each width, and what may follow it.
func edgeBytes() []byte {
	return []byte{0, 65, 127, 128, 143, 144, 159, 160, 189, 191, 192, 193, 194, 223, 224, 225, 236, 237, 238, 239, 240, 241, 243, 244, 245, 248, 255}
}

// everyBytes calls f with all lists of at most most edgeBytes.
func everyBytes(most int, f func([]byte)) {
	some := edgeBytes()
	var grow func([]byte)
	grow = func(b []byte) {
		f(b)
		if len(b) == most {
			return
		}
		for _, c := range some {
			grow(append(b[:len(b):len(b)], c))
		}
	}
	grow(nil)
}

// edgeRunes are those at which one more byte is needed, those around the numbers that are none, and the one that Go uses as a sign of an error.
func edgeRunes() []int {
	return []int{0, 1, 65, 127, 128, 233, 2047, 2048, 4095, 4096, 8364, 55295, 57344, 65279, 65533, 65535, 65536, 262143, 262144, 1114111}
}

// P2.1, the chapter's examples and the edges that it names.
func TestBadExamples(t *testing.T) {
	for _, p := range []struct {
		b    []byte
		want int
	}{
		{nil, -1},
		{[]byte{}, -1},
		{[]byte{97}, -1},
		{[]byte{97, 195, 169}, -1},
		{[]byte{97, 195}, 1},
		{[]byte{192, 128}, 0},
		{[]byte{237, 160, 128}, 0},
		{[]byte{0}, -1},
		{[]byte{127}, -1},
		{[]byte{128}, 0},
		{[]byte{97, 128}, 1},
		{[]byte{193, 191}, 0},
		{[]byte{194, 128}, -1},
		{[]byte{223, 191}, -1},
		{[]byte{224, 159, 191}, 0},
		{[]byte{224, 160, 128}, -1},
		{[]byte{237, 159, 191}, -1},
		{[]byte{237, 191, 191}, 0},
		{[]byte{238, 128, 128}, -1},
		{[]byte{239, 191, 189}, -1},
		{[]byte{239, 191, 189, 255}, 3},
		{[]byte{239, 191, 189, 239, 191}, 3},
		{[]byte{239, 191, 191}, -1},
		{[]byte{240, 143, 191, 191}, 0},
		{[]byte{240, 144, 128, 128}, -1},
		{[]byte{244, 143, 191, 191}, -1},
		{[]byte{244, 144, 128, 128}, 0},
		{[]byte{248, 128, 128, 128, 128}, 0},
		{[]byte{195, 169, 169}, 2},
		{[]byte{226, 130, 172, 226, 130}, 3},
		{[]byte{226, 130, 65}, 0},
		{[]byte{195, 195, 169}, 0},
		{[]byte{240, 159, 153, 130, 240, 159, 153}, 4},
		{[]byte{97, 98, 255, 255}, 2},
	} {
		if n := Bad(p.b); n != p.want {
			t.Errorf("Bad(%v) = %d, want %d", p.b, n, p.want)
		}
		checkRead(t, p.b)
	}
}

// P2.1, the chapter's examples, and what neighbours the numbers that are no runes.
func TestRunesExamples(t *testing.T) {
	for _, p := range []struct {
		b []byte
		l []int
		f api.Fault
	}{
		{nil, nil, api.Fault{}},
		{[]byte{97, 226, 130, 172}, []int{97, 8364}, api.Fault{}},
		{[]byte{127, 194, 128, 223, 191, 224, 160, 128}, []int{127, 128, 2047, 2048}, api.Fault{}},
		{[]byte{237, 159, 191, 238, 128, 128}, []int{55295, 57344}, api.Fault{}},
		{[]byte{239, 191, 189, 239, 191, 191, 240, 144, 128, 128, 244, 143, 191, 191}, []int{65533, 65535, 65536, 1114111}, api.Fault{}},
		{[]byte{97, 98, 195}, nil, api.Fault{Err: api.ErrBytes, At: 2}},
		{[]byte{192, 128}, nil, api.Fault{Err: api.ErrBytes}},
		{[]byte{195, 169, 237, 160, 128}, nil, api.Fault{Err: api.ErrBytes, At: 2}},
		{[]byte{97, 244, 144, 128, 128}, nil, api.Fault{Err: api.ErrBytes, At: 1}},
	} {
		if l, f := Runes(p.b); f != p.f || !slices.Equal(l, p.l) {
			t.Errorf("Runes(%v) = %v, %v; want %v, %v", p.b, l, f, p.l, p.f)
		}
	}
}

func TestOfExamples(t *testing.T) {
	for _, p := range []struct {
		l []int
		b []byte
		e api.Errno
	}{
		{nil, nil, api.OK},
		{[]int{8364}, []byte{226, 130, 172}, api.OK},
		{[]int{127, 128, 2047, 2048}, []byte{127, 194, 128, 223, 191, 224, 160, 128}, api.OK},
		{[]int{55295, 57344}, []byte{237, 159, 191, 238, 128, 128}, api.OK},
		{[]int{65533, 65535, 65536, 1114111}, []byte{239, 191, 189, 239, 191, 191, 240, 144, 128, 128, 244, 143, 191, 191}, api.OK},
		{[]int{55296}, nil, api.ErrRange},
		{[]int{57343}, nil, api.ErrRange},
		{[]int{1114112}, nil, api.ErrRange},
		{[]int{-1}, nil, api.ErrRange},
		{[]int{math.MaxInt}, nil, api.ErrRange},
		{[]int{math.MinInt}, nil, api.ErrRange},
		{[]int{1<<32 + 65}, nil, api.ErrRange},
		{[]int{-1<<32 + 65}, nil, api.ErrRange},
		{[]int{1 << 32}, nil, api.ErrRange},
		{[]int{55296, 65, 66}, nil, api.ErrRange},
		{[]int{65, 55296, 66}, nil, api.ErrRange},
		{[]int{65, 66, 55296}, nil, api.ErrRange},
	} {
		if b, e := Of(p.l); e != p.e || !bytes.Equal(b, p.b) {
			t.Errorf("Of(%v) = %v, %v; want %v, %v", p.l, b, e, p.b, p.e)
		}
	}
}

// P2.1: every rune, and every number of a wider range that is none.
func TestEveryRune(t *testing.T) {
	for n := -70000; n <= 1200000; n++ {
		b, e := Of([]int{n})
		if !isRune(n) {
			if e != api.ErrRange || len(b) > 0 {
				t.Fatalf("Of(%d) = %v, %v; want ErrRange", n, b, e)
			}
			continue
		}
		want := runeBytes(n)
		if e != api.OK || !bytes.Equal(b, want) {
			t.Fatalf("Of(%d) = %v, %v; want %v", n, b, e, want)
		}
		if l, f := Runes(want); f != (api.Fault{}) || len(l) != 1 || l[0] != n || Bad(want) != -1 {
			t.Fatalf("Runes(%v) = %v, %v, Bad %d; want %d", want, l, f, Bad(want), n)
		}
	}
}

// P2.1 and P2.3: all lists of at most two bytes, and longer ones of bytes at edges; what is a text is written as it was, so that no two lists are one text.
func TestReadEvery(t *testing.T) {
	for c := range 256 {
		checkRead(t, []byte{byte(c)})
		for d := range 256 {
			checkRead(t, []byte{byte(c), byte(d)})
			checkRead(t, []byte{97, byte(c), byte(d), 128, 128})
		}
	}
	everyBytes(4, func(b []byte) { checkRead(t, b) })
}

// P2.1 and P2.3: whole runes beside one another, cut off at each place, and with one byte of them too many.
func TestReadCut(t *testing.T) {
	for _, r := range edgeRunes() {
		for _, s := range edgeRunes() {
			b := append(runeBytes(r), runeBytes(s)...)
			for n := range len(b) + 1 {
				checkRead(t, b[:n])
				checkRead(t, slices.Insert(slices.Clone(b), n, 128))
				checkRead(t, slices.Insert(slices.Clone(b), n, 195))
				checkRead(t, b[n:])
			}
		}
	}
}

// P2.2, the chapter's examples of Put, and the edges of what it refuses.
func TestPutExamples(t *testing.T) {
	most := strings.Repeat("x", 1<<20)
	for _, p := range []struct {
		about string
		s     string
		head  []byte
		e     api.Errno
	}{
		{"none", "", []byte{0}, api.OK},
		{"two letters", "ab", []byte{2}, api.OK},
		{"bytes are counted, not runes", "aé€\U0001f642", []byte{10}, api.OK},
		{"the rune that is also a sign of an error", "\ufffd", []byte{3}, api.OK},
		{"127 bytes", most[:127], []byte{127}, api.OK},
		{"128 bytes", most[:128], []byte{128, 1}, api.OK},
		{"as many as may be", most, []byte{128, 128, 64}, api.OK},
		{"as many as may be, in half as many runes", strings.Repeat("é", 1<<19), []byte{128, 128, 64}, api.OK},
		{"one too many", most + "x", nil, api.ErrLong},
		{"one too many, in half as many runes", strings.Repeat("é", 1<<19) + "x", nil, api.ErrLong},
		{"one too many, which are no text", "\xff" + most, nil, api.ErrLong},
		{"as many as may be, of which the last is none", most[1:] + "\xff", nil, api.ErrBytes},
		{"a byte that begins none", "\xff", nil, api.ErrBytes},
		{"a rune that is cut off", "ab\xc3", nil, api.ErrBytes},
		{"a number that is none", "\xed\xa0\x80", nil, api.ErrBytes},
		{"a byte too many", "\xc0\x80", nil, api.ErrBytes},
	} {
		var want []byte
		if p.e == api.OK {
			want = append(p.head, p.s...)
		}
		if b, e := Put(p.s); e != p.e || !bytes.Equal(b, want) {
			t.Errorf("Put of %s: %d bytes, %v; want %d, %v", p.about, len(b), e, len(want), p.e)
		}
	}
}

// P2.2, the chapter's examples of Get, and the edges of what it refuses.
func TestGetExamples(t *testing.T) {
	fault := func(e api.Errno, at int) api.Fault { return api.Fault{Err: e, At: at} }
	for _, p := range []struct {
		b    []byte
		at   int
		s    string
		next int
		f    api.Fault
	}{
		{[]byte{2, 97, 98, 9}, 0, "ab", 3, api.Fault{}},
		{[]byte{2, 97, 98, 9}, 1, "", 0, fault(api.ErrBytes, 4)},
		{[]byte{9, 9, 2, 97, 98}, 2, "ab", 5, api.Fault{}},
		{[]byte{0}, 0, "", 1, api.Fault{}},
		{[]byte{97, 0, 97}, 1, "", 2, api.Fault{}},
		{[]byte{3, 239, 191, 189}, 0, "\ufffd", 4, api.Fault{}},
		{[]byte{9, 6, 97, 195, 169, 226, 130, 172, 255}, 1, "aé€", 8, api.Fault{}},
		{[]byte{130, 0, 97, 98}, 0, "ab", 4, api.Fault{}},
		{[]byte{130, 128, 128, 128, 0, 97, 98}, 0, "ab", 7, api.Fault{}},
		// The number is at fault.
		{nil, 0, "", 0, fault(api.ErrBytes, 0)},
		{[]byte{128}, 0, "", 0, fault(api.ErrBytes, 1)},
		{[]byte{128, 128, 128, 128, 16, 97}, 0, "", 0, fault(api.ErrBytes, 4)},
		{[]byte{1, 97}, 2, "", 0, fault(api.ErrBytes, 2)},
		{[]byte{1, 97}, 3, "", 0, fault(api.ErrRange, 0)},
		{[]byte{1, 97}, -1, "", 0, fault(api.ErrRange, 0)},
		{nil, 1, "", 0, fault(api.ErrRange, 0)},
		{[]byte{1, 97}, math.MaxInt, "", 0, fault(api.ErrRange, 0)},
		{[]byte{1, 97}, math.MinInt, "", 0, fault(api.ErrRange, 0)},
		// Fewer bytes follow.
		{[]byte{2, 97}, 0, "", 0, fault(api.ErrBytes, 2)},
		{[]byte{1}, 0, "", 0, fault(api.ErrBytes, 1)},
		{[]byte{9, 9, 3, 97, 98}, 2, "", 0, fault(api.ErrBytes, 5)},
		{[]byte{3, 255, 255}, 0, "", 0, fault(api.ErrBytes, 3)},
		{[]byte{255, 255, 255, 255, 15, 97}, 0, "", 0, fault(api.ErrBytes, 6)},
		{[]byte{255, 255, 255, 255, 7, 97}, 0, "", 0, fault(api.ErrBytes, 6)},
		{[]byte{128, 128, 128, 128, 8, 97}, 0, "", 0, fault(api.ErrBytes, 6)},
		// They are no text.
		{[]byte{1, 255}, 0, "", 0, fault(api.ErrBytes, 1)},
		{[]byte{9, 9, 4, 97, 195, 169, 128}, 2, "", 0, fault(api.ErrBytes, 6)},
		{[]byte{2, 97, 195, 169}, 0, "", 0, fault(api.ErrBytes, 2)},
		{[]byte{3, 237, 160, 128}, 0, "", 0, fault(api.ErrBytes, 1)},
		{[]byte{130, 0, 192, 128}, 0, "", 0, fault(api.ErrBytes, 2)},
	} {
		if s, next, f := Get(p.b, p.at); s != p.s || next != p.next || f != p.f {
			t.Errorf("Get(%v, %d) = %q, %d, %v; want %q, %d, %v", p.b, p.at, s, next, f, p.s, p.next, p.f)
		}
	}
}

// P2.2: only Put has a limit.
func TestGetLong(t *testing.T) {
	long := strings.Repeat("x", 1<<20+1)
	b := append([]byte{129, 128, 64}, long...)
	if s, next, f := Get(b, 0); s != long || next != len(b) || f != (api.Fault{}) {
		t.Errorf("%d bytes of a name, up to %d, %v", len(s), next, f)
	}
	if s, next, f := Get(b[:len(b)-1], 0); s != "" || next != 0 || f != (api.Fault{Err: api.ErrBytes, At: len(b) - 1}) {
		t.Errorf("%d bytes of a name, up to %d, %v", len(s), next, f)
	}
}

// P2.2: each number of bytes ahead of each short list, after other bytes.
func TestGetEvery(t *testing.T) {
	everyBytes(3, func(l []byte) {
		for n := range len(l) + 2 {
			b := append([]byte{255, byte(n)}, l...)
			s, next, f := Get(b, 1)
			want := api.Fault{}
			if n > len(l) {
				want = api.Fault{Err: api.ErrBytes, At: len(b)}
			} else if _, place := read(l[:n]); place >= 0 {
				want = api.Fault{Err: api.ErrBytes, At: 2 + place}
			}
			if f != want || f.Err != api.OK && (s != "" || next != 0) || f.Err == api.OK && (s != string(l[:n]) || next != 2+n) {
				t.Fatalf("Get(%v, 1) = %q, %d, %v; want %v", b, s, next, f, want)
			}
		}
	})
}

// P2.3: what is written is read as the name, whatever stands around it.
func TestPutThenGet(t *testing.T) {
	names := []string{"", "a", "memory", strings.Repeat("é", 64), strings.Repeat("€", 5461), strings.Repeat("x", 1<<20)}
	for _, r := range edgeRunes() {
		for _, s := range edgeRunes() {
			names = append(names, string(append(runeBytes(r), runeBytes(s)...)))
		}
	}
	for _, s := range names {
		b, e := Put(s)
		if e != api.OK {
			t.Fatalf("Put(%.20q): %v", s, e)
		}
		for _, ahead := range [][]byte{nil, {0}, {255, 128}} {
			for _, rest := range [][]byte{nil, {0}, {128, 191}} {
				whole := slices.Concat(ahead, b, rest)
				if got, next, f := Get(whole, len(ahead)); got != s || next != len(ahead)+len(b) || f != (api.Fault{}) {
					t.Fatalf("Get of Put(%.20q) after %v, before %v: %.20q, %d, %v", s, ahead, rest, got, next, f)
				}
			}
		}
	}
}

// P2.3: runes are returned as they were, however many.
func TestOfThenRunes(t *testing.T) {
	var l []int
	for range 50 {
		for _, r := range edgeRunes() {
			b, e := Of(l)
			if got, f := Runes(b); e != api.OK || f != (api.Fault{}) || !slices.Equal(got, l) || Bad(b) != -1 {
				t.Fatalf("%v become %v, %v, and these %v, %v", l, b, e, got, f)
			}
			l = append(l, r)
		}
	}
}

// What lies behind a list's end isn't read: here it would make a text of what is none, and bytes enough of too few.
func TestEndIsEnd(t *testing.T) {
	b := []byte{3, 97, 195, 169}
	if n := Bad(b[1:3]); n != 1 {
		t.Error(n)
	}
	if l, f := Runes(b[1:3]); len(l) > 0 || f != (api.Fault{Err: api.ErrBytes, At: 1}) {
		t.Error(l, f)
	}
	if s, next, f := Get(b[:3], 0); s != "" || next != 0 || f != (api.Fault{Err: api.ErrBytes, At: 3}) {
		t.Error(s, next, f)
	}
	if !bytes.Equal(b, []byte{3, 97, 195, 169}) {
		t.Error(b)
	}
}

// No argument is changed, or kept; a result is new memory.
func TestNewMemory(t *testing.T) {
	l := []int{97, 8364}
	b, _ := Of(l)
	clear(b[:cap(b)])
	if b, _ := Of(l); !slices.Equal(l, []int{97, 8364}) || !bytes.Equal(b, []byte{97, 226, 130, 172}) {
		t.Error(l, b)
	}
	p, _ := Put("ab")
	clear(p[:cap(p)])
	if p, _ := Put("ab"); !bytes.Equal(p, []byte{2, 97, 98}) {
		t.Error(p)
	}
	text := []byte{2, 97, 98}
	r, _ := Runes(text)
	s, _, _ := Get(text, 0)
	clear(text)
	if !slices.Equal(r, []int{2, 97, 98}) || s != "ab" {
		t.Error(r, s)
	}
	clear(r[:cap(r)])
	if r, _ := Runes([]byte{97}); !slices.Equal(r, []int{97}) {
		t.Error(r)
	}
}
