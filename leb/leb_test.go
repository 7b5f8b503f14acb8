package leb

import (
	"bytes"
	"math"
	"testing"

	"gimlet/api"
)

// edges returns, for every power of two and its negative, the numbers around it: among them are all at which one more byte is needed.
func edges() []int64 {
	var out []int64
	for k := range 33 {
		for d := int64(-3); d <= 3; d++ {
			out = append(out, int64(1)<<k+d, -(int64(1)<<k)+d)
		}
	}
	for n := int64(-20000); n <= 20000; n += 7 {
		out = append(out, n, n*104729, n*107374)
	}
	return out
}

func unsignedEdges() []uint32 {
	var out []uint32
	for _, n := range edges() {
		if n >= 0 && n <= math.MaxUint32 {
			out = append(out, uint32(n))
		}
	}
	return out
}

func signedEdges() []int32 {
	var out []int32
	for _, n := range edges() {
		if n >= math.MinInt32 && n <= math.MaxInt32 {
			out = append(out, int32(n))
		}
	}
	return out
}

// sum is the number that whole bytes are by the chapter's definition: parts as digits, of which the last one may count as less than 0.
func sum(b []byte, signed bool) int64 {
	n, unit := int64(0), int64(1)
	for i, c := range b {
		digit := int64(c % 128)
		if signed && i == len(b)-1 && digit >= 64 {
			digit -= 128
		}
		n += digit * unit
		unit *= 128
	}
	return n
}

// fewest is the least number of bytes for n, by the range that each number of parts covers.
func fewest(n int64, signed bool) int {
	low, high := int64(0), int64(128)
	if signed {
		low, high = -64, 64
	}
	k := 1
	for n < low || n >= high {
		low, high, k = low*128, high*128, k+1
	}
	return k
}

// read is the chapter's P1.2, said another way.
func read(b []byte, at int, signed bool) (int64, int, api.Fault) {
	if at < 0 || at > len(b) {
		return 0, 0, api.Fault{Err: api.ErrRange}
	}
	for i := range 5 {
		if at+i == len(b) {
			return 0, 0, api.Fault{Err: api.ErrBytes, At: len(b)}
		}
		c := b[at+i]
		good := c <= 15
		if signed {
			good = c <= 7 || c >= 120 && c <= 127
		}
		if i == 4 && !good {
			return 0, 0, api.Fault{Err: api.ErrBytes, At: at + 4}
		}
		if c < 128 {
			return sum(b[at:at+i+1], signed), at + i + 1, api.Fault{}
		}
	}
	panic("a fifth byte that is neither the last one nor at fault")
}

// checkGet holds what both functions answer against read.
func checkGet(t *testing.T, b []byte, at int) {
	t.Helper()
	u, uAt, uFault := GetU(b, at)
	if n, next, f := read(b, at, false); int64(u) != n || uAt != next || uFault != f {
		t.Fatalf("GetU(%v, %d) = %d, %d, %v; want %d, %d, %v", b, at, u, uAt, uFault, n, next, f)
	}
	s, sAt, sFault := GetS(b, at)
	if n, next, f := read(b, at, true); int64(s) != n || sAt != next || sFault != f {
		t.Fatalf("GetS(%v, %d) = %d, %d, %v; want %d, %d, %v", b, at, s, sAt, sFault, n, next, f)
	}
}

// everyBytes calls f with all lists of at most most bytes that are taken from some that lie at an edge of a rule.
func everyBytes(most int, f func([]byte)) {
	some := []byte{0, 1, 7, 8, 15, 16, 63, 64, 119, 120, 127, 128, 135, 143, 144, 192, 248, 255}
	var grow func([]byte)
	grow = func(b []byte) {
		f(b)
		if len(b) == most {
			return
		}
		for _, c := range some {
			grow(append(b[:len(b):len(b)], c))
		}
	}
	grow(nil)
}

// P1.1, and the chapter's examples of it.
func TestPutExamples(t *testing.T) {
	for _, p := range []struct {
		n    uint32
		want []byte
	}{
		{0, []byte{0}},
		{1, []byte{1}},
		{127, []byte{127}},
		{128, []byte{128, 1}},
		{1<<14 - 1, []byte{255, 127}},
		{1 << 14, []byte{128, 128, 1}},
		{1<<21 - 1, []byte{255, 255, 127}},
		{1 << 21, []byte{128, 128, 128, 1}},
		{1<<28 - 1, []byte{255, 255, 255, 127}},
		{1 << 28, []byte{128, 128, 128, 128, 1}},
		{1<<32 - 1, []byte{255, 255, 255, 255, 15}},
	} {
		if b := PutU(p.n); !bytes.Equal(b, p.want) {
			t.Errorf("PutU(%d) = %v, want %v", p.n, b, p.want)
		}
	}
	for _, p := range []struct {
		n    int32
		want []byte
	}{
		{0, []byte{0}},
		{-1, []byte{127}},
		{63, []byte{63}},
		{64, []byte{192, 0}},
		{-64, []byte{64}},
		{-65, []byte{191, 127}},
		{1<<13 - 1, []byte{255, 63}},
		{1 << 13, []byte{128, 192, 0}},
		{-1 << 13, []byte{128, 64}},
		{-1<<13 - 1, []byte{255, 191, 127}},
		{1<<27 - 1, []byte{255, 255, 255, 63}},
		{1 << 27, []byte{128, 128, 128, 192, 0}},
		{-1 << 27, []byte{128, 128, 128, 64}},
		{-1<<27 - 1, []byte{255, 255, 255, 191, 127}},
		{1<<31 - 1, []byte{255, 255, 255, 255, 7}},
		{-1 << 31, []byte{128, 128, 128, 128, 120}},
	} {
		if b := PutS(p.n); !bytes.Equal(b, p.want) {
			t.Errorf("PutS(%d) = %v, want %v", p.n, b, p.want)
		}
	}
}

// checkPut: b are whole bytes of n, no more than needed, and size tells how many.
func checkPut(t *testing.T, n int64, signed bool, b []byte, size int) {
	t.Helper()
	want := fewest(n, signed)
	if len(b) != want || size != want || sum(b, signed) != n {
		t.Fatalf("%d (signed: %v) is %v, of size %d; want %d bytes", n, signed, b, size, want)
	}
	for i, c := range b {
		if follows := c >= 128; follows != (i < len(b)-1) {
			t.Fatalf("%d (signed: %v) is %v: byte %d says the wrong thing about another one", n, signed, b, i)
		}
	}
}

// P1.1: what is written is the number, in the fewest bytes.
func TestPutFewest(t *testing.T) {
	for _, n := range unsignedEdges() {
		checkPut(t, int64(n), false, PutU(n), SizeU(n))
	}
	for _, n := range signedEdges() {
		checkPut(t, int64(n), true, PutS(n), SizeS(n))
	}
}

// P1.1: a result is new memory.
func TestPutNewMemory(t *testing.T) {
	a, b := PutU(1<<32-1), PutS(-1<<31)
	clear(a[:cap(a)])
	clear(b[:cap(b)])
	if a := PutU(1<<32 - 1); !bytes.Equal(a, []byte{255, 255, 255, 255, 15}) {
		t.Error(a)
	}
	if b := PutS(-1 << 31); !bytes.Equal(b, []byte{128, 128, 128, 128, 120}) {
		t.Error(b)
	}
}

// P1.2, the chapter's examples and the edges that it names.
func TestGetUExamples(t *testing.T) {
	fault := func(e api.Errno, at int) api.Fault { return api.Fault{Err: e, At: at} }
	for _, p := range []struct {
		b    []byte
		at   int
		n    uint32
		next int
		f    api.Fault
	}{
		{[]byte{128, 0}, 0, 0, 2, api.Fault{}},
		{[]byte{9, 5}, 1, 5, 2, api.Fault{}},
		{[]byte{9, 5}, 0, 9, 1, api.Fault{}},
		{[]byte{229, 142, 38}, 0, 624485, 3, api.Fault{}},
		{[]byte{128, 128, 128, 128, 0}, 0, 0, 5, api.Fault{}},
		{[]byte{255, 255, 255, 255, 15}, 0, 1<<32 - 1, 5, api.Fault{}},
		{[]byte{255, 255, 255, 255, 16}, 0, 0, 0, fault(api.ErrBytes, 4)},
		{[]byte{255, 255, 255, 255, 127}, 0, 0, 0, fault(api.ErrBytes, 4)},
		{[]byte{9, 128, 128, 128, 128, 128, 0}, 1, 0, 0, fault(api.ErrBytes, 5)},
		{[]byte{128, 128, 128, 128, 128}, 0, 0, 0, fault(api.ErrBytes, 4)},
		{[]byte{128}, 0, 0, 0, fault(api.ErrBytes, 1)},
		{[]byte{9, 128, 255, 128}, 1, 0, 0, fault(api.ErrBytes, 4)},
		{[]byte{128, 128, 128, 128}, 0, 0, 0, fault(api.ErrBytes, 4)},
		{[]byte{5}, 1, 0, 0, fault(api.ErrBytes, 1)},
		{[]byte{5}, 2, 0, 0, fault(api.ErrRange, 0)},
		{[]byte{5}, -1, 0, 0, fault(api.ErrRange, 0)},
		{nil, 0, 0, 0, fault(api.ErrBytes, 0)},
		{nil, 1, 0, 0, fault(api.ErrRange, 0)},
		{nil, -1, 0, 0, fault(api.ErrRange, 0)},
		{[]byte{5}, math.MaxInt, 0, 0, fault(api.ErrRange, 0)},
		{[]byte{5}, math.MinInt, 0, 0, fault(api.ErrRange, 0)},
	} {
		if n, next, f := GetU(p.b, p.at); n != p.n || next != p.next || f != p.f {
			t.Errorf("GetU(%v, %d) = %d, %d, %v", p.b, p.at, n, next, f)
		}
	}
}

func TestGetSExamples(t *testing.T) {
	fault := func(e api.Errno, at int) api.Fault { return api.Fault{Err: e, At: at} }
	for _, p := range []struct {
		b    []byte
		at   int
		n    int32
		next int
		f    api.Fault
	}{
		{[]byte{127}, 0, -1, 1, api.Fault{}},
		{[]byte{255, 127}, 0, -1, 2, api.Fault{}},
		{[]byte{255, 255, 255, 255, 127}, 0, -1, 5, api.Fault{}},
		{[]byte{9, 192, 0}, 1, 64, 3, api.Fault{}},
		{[]byte{255, 255, 255, 63}, 0, 1<<27 - 1, 4, api.Fault{}},
		{[]byte{128, 128, 128, 64}, 0, -1 << 27, 4, api.Fault{}},
		{[]byte{255, 255, 255, 255, 7}, 0, 1<<31 - 1, 5, api.Fault{}},
		{[]byte{128, 128, 128, 128, 120}, 0, -1 << 31, 5, api.Fault{}},
		{[]byte{255, 255, 255, 255, 8}, 0, 0, 0, fault(api.ErrBytes, 4)},
		{[]byte{255, 255, 255, 255, 15}, 0, 0, 0, fault(api.ErrBytes, 4)},
		{[]byte{255, 255, 255, 255, 119}, 0, 0, 0, fault(api.ErrBytes, 4)},
		{[]byte{9, 255, 255, 255, 255, 255, 127}, 1, 0, 0, fault(api.ErrBytes, 5)},
		{[]byte{255}, 0, 0, 0, fault(api.ErrBytes, 1)},
		{[]byte{255, 255, 255, 255}, 2, 0, 0, fault(api.ErrBytes, 4)},
		{[]byte{127}, 1, 0, 0, fault(api.ErrBytes, 1)},
		{[]byte{127}, 2, 0, 0, fault(api.ErrRange, 0)},
		{[]byte{127}, -1, 0, 0, fault(api.ErrRange, 0)},
		{nil, 0, 0, 0, fault(api.ErrBytes, 0)},
		{nil, 1, 0, 0, fault(api.ErrRange, 0)},
		{[]byte{127}, math.MaxInt, 0, 0, fault(api.ErrRange, 0)},
		{[]byte{127}, math.MinInt, 0, 0, fault(api.ErrRange, 0)},
	} {
		if n, next, f := GetS(p.b, p.at); n != p.n || next != p.next || f != p.f {
			t.Errorf("GetS(%v, %d) = %d, %d, %v", p.b, p.at, n, next, f)
		}
	}
}

// P1.2: every fifth byte, after parts that are 0 and parts that are full.
func TestGetFifthByte(t *testing.T) {
	for c := range 256 {
		for _, before := range []byte{128, 255} {
			b := []byte{before, before, before, before, byte(c)}
			checkGet(t, b, 0)
			checkGet(t, append(b, 0), 0)
		}
	}
}

// P1.2: all lists of at most two bytes, and longer ones of bytes at edges, at each place and at those beyond.
func TestGetEvery(t *testing.T) {
	for c := range 256 {
		checkGet(t, []byte{byte(c)}, 0)
		for d := range 256 {
			for at := -1; at <= 3; at++ {
				checkGet(t, []byte{byte(c), byte(d)}, at)
			}
		}
	}
	everyBytes(5, func(b []byte) { checkGet(t, b, 0) })
	everyBytes(3, func(b []byte) {
		for at := -2; at <= len(b)+2; at++ {
			checkGet(t, b, at)
		}
	})
}

// P1.2: what lies behind a list's end, or ahead of the place, isn't read; nothing is changed.
func TestGetLeavesTheRest(t *testing.T) {
	b := []byte{255, 129, 1, 130}
	for n := range len(b) + 1 {
		for at := range n + 1 {
			checkGet(t, b[:n], at)
		}
	}
	if !bytes.Equal(b, []byte{255, 129, 1, 130}) {
		t.Error(b)
	}
}

// P1.3: what is written is read as the number, with nothing left.
func TestPutThenGet(t *testing.T) {
	for _, n := range unsignedEdges() {
		b := PutU(n)
		if m, at, f := GetU(b, 0); m != n || at != len(b) || f.Err != api.OK {
			t.Fatalf("GetU(%v, 0) = %d, %d, %v; want %d", b, m, at, f, n)
		}
	}
	for _, n := range signedEdges() {
		b := PutS(n)
		if m, at, f := GetS(b, 0); m != n || at != len(b) || f.Err != api.OK {
			t.Fatalf("GetS(%v, 0) = %d, %d, %v; want %d", b, m, at, f, n)
		}
	}
}

// P1.3: the encoding of what is read isn't longer than what was read.
func TestGetThenPut(t *testing.T) {
	everyBytes(5, func(b []byte) {
		if n, at, f := GetU(b, 0); f.Err == api.OK && (len(PutU(n)) > at || SizeU(n) > at) {
			t.Fatalf("GetU(%v, 0) = %d, which is written as %v", b, n, PutU(n))
		}
		if n, at, f := GetS(b, 0); f.Err == api.OK && (len(PutS(n)) > at || SizeS(n) > at) {
			t.Fatalf("GetS(%v, 0) = %d, which is written as %v", b, n, PutS(n))
		}
	})
}

// P1.4: whatever follows, the same is read.
func TestGetWhateverFollows(t *testing.T) {
	rests := [][]byte{{0}, {127}, {128}, {255}, {255, 255, 255, 255, 255, 255}, {0, 128, 1}}
	everyBytes(4, func(b []byte) {
		for _, first := range [][]byte{b, append([]byte{200}, b...)} {
			u, uAt, uFault := GetU(first, 0)
			s, sAt, sFault := GetS(first, 0)
			for _, rest := range rests {
				whole := append(bytes.Clone(first), rest...)
				if n, at, f := GetU(whole, 0); uFault.Err == api.OK && (n != u || at != uAt || f != uFault) {
					t.Fatalf("GetU(%v, 0) = %d, %d, %v; without the rest %d, %d", whole, n, at, f, u, uAt)
				}
				if n, at, f := GetS(whole, 0); sFault.Err == api.OK && (n != s || at != sAt || f != sFault) {
					t.Fatalf("GetS(%v, 0) = %d, %d, %v; without the rest %d, %d", whole, n, at, f, s, sAt)
				}
			}
		}
	})
}
