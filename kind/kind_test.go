package kind

import (
	"bytes"
	"math"
	"slices"
	"testing"

	"gimlet/api"
	"gimlet/leb"
)

func faultAt(e api.Errno, at int) api.Fault { return api.Fault{Err: e, At: at} }

// isType and isLimits are the chapter's definitions.
func isType(t api.FuncType) bool {
	return t.Params >= 0 && t.Params <= 255 && (t.Results == 0 || t.Results == 1)
}

func isLimits(l api.Limits, most uint32) bool {
	if l.Min > most {
		return false
	}
	return !l.Capped && l.Max == 0 || l.Capped && l.Max >= l.Min && l.Max <= most
}

// typeBytes are a valid type's bytes, without leb.
func typeBytes(t api.FuncType) []byte {
	b := []byte{96}
	if t.Params > 127 {
		b = append(b, byte(t.Params), 1) // of a number from 128 to 255 the lowest seven bits, and the sign that one more follows, are the byte of that number
	} else {
		b = append(b, byte(t.Params))
	}
	for range t.Params {
		b = append(b, 127)
	}
	b = append(b, byte(t.Results))
	for range t.Results {
		b = append(b, 127)
	}
	return b
}

// readWords reads the number of words at a place, and these, as P4.2 says.
func readWords(b []byte, at int, most uint32) (int, int, api.Fault) {
	n, next, f := leb.GetU(b, at)
	if f.Err != api.OK {
		return 0, 0, f
	}
	if n > most {
		return 0, 0, faultAt(api.ErrMany, at)
	}
	for i := range int(n) {
		if next+i >= len(b) {
			return 0, 0, faultAt(api.ErrBytes, len(b))
		}
		if b[next+i] != 127 {
			return 0, 0, faultAt(api.ErrTag, next+i)
		}
	}
	return int(n), next + int(n), api.Fault{}
}

// readType is P4.2, said another way.
func readType(b []byte, at int) (api.FuncType, int, api.Fault) {
	none := api.FuncType{}
	switch {
	case at < 0 || at > len(b):
		return none, 0, faultAt(api.ErrRange, 0)
	case at == len(b):
		return none, 0, faultAt(api.ErrBytes, len(b))
	case b[at] != 96:
		return none, 0, faultAt(api.ErrTag, at)
	}
	params, next, f := readWords(b, at+1, 255)
	if f.Err != api.OK {
		return none, 0, f
	}
	results, next, f := readWords(b, next, 1)
	if f.Err != api.OK {
		return none, 0, f
	}
	return api.FuncType{Params: params, Results: results}, next, api.Fault{}
}

// readLimits is P4.3, said another way: the faults in the order in which it names them.
func readLimits(b []byte, at int, most uint32) (api.Limits, int, api.Fault) {
	none := api.Limits{}
	switch {
	case at < 0 || at > len(b):
		return none, 0, faultAt(api.ErrRange, 0)
	case at == len(b):
		return none, 0, faultAt(api.ErrBytes, len(b))
	case b[at] > 1:
		return none, 0, faultAt(api.ErrTag, at)
	}
	low, second, f := leb.GetU(b, at+1)
	if f.Err != api.OK {
		return none, 0, f
	}
	if b[at] == 0 {
		if low > most {
			return none, 0, faultAt(api.ErrMany, at+1)
		}
		return api.Limits{Min: low}, second, api.Fault{}
	}
	high, next, f := leb.GetU(b, second)
	switch {
	case f.Err != api.OK:
		return none, 0, f
	case low > most:
		return none, 0, faultAt(api.ErrMany, at+1)
	case high > most || high < low:
		return none, 0, faultAt(api.ErrMany, second)
	}
	return api.Limits{Min: low, Max: high, Capped: true}, next, api.Fault{}
}

// checkGet holds Get against readType.
func checkGet(t *testing.T, b []byte, at int) {
	t.Helper()
	want, wantNext, wantFault := readType(b, at)
	if x, next, f := Get(b, at); x != want || next != wantNext || f != wantFault {
		t.Fatalf("Get(%v, %d) = %v, %d, %v; want %v, %d, %v", b, at, x, next, f, want, wantNext, wantFault)
	}
}

// checkGetLimits holds GetLimits against readLimits.
func checkGetLimits(t *testing.T, b []byte, at int, most uint32) {
	t.Helper()
	want, wantNext, wantFault := readLimits(b, at, most)
	if l, next, f := GetLimits(b, at, most); l != want || next != wantNext || f != wantFault {
		t.Fatalf("GetLimits(%v, %d, %d) = %v, %d, %v; want %v, %d, %v", b, at, most, l, next, f, want, wantNext, wantFault)
	}
}

// everyBytes calls f with all lists of at most most bytes that are taken from some.
func everyBytes(some []byte, most int, f func([]byte)) {
	var grow func([]byte)
	grow = func(b []byte) {
		f(b)
		if len(b) == most {
			return
		}
		for _, c := range some {
			grow(append(b[:len(b):len(b)], c))
		}
	}
	grow(nil)
}

// everyType calls f with each valid type.
func everyType(f func(api.FuncType)) {
	for params := range 256 {
		for results := range 2 {
			f(api.FuncType{Params: params, Results: results})
		}
	}
}

// edgeWords lie where one more byte is needed, at the bounds of memories and tables, and at the ends.
func edgeWords() []uint32 {
	return []uint32{0, 1, 2, 3, 9, 10, 11, 99, 100, 101, 127, 128, 129, 16383, 16384, 65535, 65536, 65537, 1<<20 - 1, 1 << 20, 1<<20 + 1, 1<<28 - 1, 1 << 28, 1<<31 - 1, 1 << 31, 1<<32 - 2, 1<<32 - 1}
}

// everyLimits calls f with all limits of edgeWords, valid or not, within each bound of them.
func everyLimits(f func(l api.Limits, most uint32)) {
	for _, most := range edgeWords() {
		for _, low := range edgeWords() {
			for _, high := range edgeWords() {
				f(api.Limits{Min: low, Max: high}, most)
				f(api.Limits{Min: low, Max: high, Capped: true}, most)
			}
		}
	}
}

// longerNumbers returns n in all the ways in which leb can have it, the shortest first.
func longerNumbers(n uint32) [][]byte {
	out := [][]byte{leb.PutU(n)}
	for last := out[0]; len(last) < 5; {
		last = slices.Clone(last)
		last[len(last)-1] |= 128
		last = append(last, 0)
		out = append(out, last)
	}
	return out
}

// refusedNumbers returns bytes that leb.GetU refuses, each with the place of its fault among them.
func refusedNumbers() map[int][]byte {
	return map[int][]byte{
		0: {},
		1: {128},
		2: {255, 128},
		3: {128, 128, 128},
		4: {255, 255, 255, 255, 16},
	}
}

// P4.1: which types there are, and what Put refuses.
func TestCheck(t *testing.T) {
	numbers := []int{math.MinInt, math.MinInt + 1, -1 << 32, -1<<32 + 1, -1 << 31, -256, -255, 1 << 31, 1 << 32, 1<<32 + 1, 1<<32 + 255, math.MaxInt}
	for n := -3; n <= 600; n++ {
		numbers = append(numbers, n)
	}
	for _, params := range numbers {
		for _, results := range numbers {
			x := api.FuncType{Params: params, Results: results}
			if isType(x) {
				if e := Check(x); e != api.OK {
					t.Fatalf("Check(%v) = %v", x, e)
				}
				continue
			}
			if e := Check(x); e != api.ErrArg {
				t.Fatalf("Check(%v) = %v, want ErrArg", x, e)
			}
			if b, e := Put(x); e != api.ErrArg || b != nil {
				t.Fatalf("Put(%v) = %v, %v; want ErrArg", x, b, e)
			}
		}
	}
}

// P4.1: the types that the chapter's bounds name, one by one.
func TestCheckExamples(t *testing.T) {
	for _, p := range []struct {
		params, results int
		want            api.Errno
	}{
		{0, 0, api.OK},
		{1, 0, api.OK},
		{255, 0, api.OK},
		{0, 1, api.OK},
		{1, 1, api.OK},
		{255, 1, api.OK},
		{256, 0, api.ErrArg},
		{256, 1, api.ErrArg},
		{-1, 0, api.ErrArg},
		{-1, 1, api.ErrArg},
		{0, 2, api.ErrArg},
		{0, -1, api.ErrArg},
		{255, 2, api.ErrArg},
		{255, -1, api.ErrArg},
		{-1, -1, api.ErrArg},
		{256, 2, api.ErrArg},
	} {
		x := api.FuncType{Params: p.params, Results: p.results}
		if e := Check(x); e != p.want {
			t.Errorf("Check(%v) = %v, want %v", x, e, p.want)
		}
		if _, e := Put(x); e != p.want {
			t.Errorf("Put(%v): %v, want %v", x, e, p.want)
		}
	}
}

// P4.1, the chapter's examples of Put and those around the number that needs two bytes.
func TestPutExamples(t *testing.T) {
	words := func(n int) []byte { return bytes.Repeat([]byte{127}, n) }
	for _, p := range []struct {
		params, results int
		want            []byte
	}{
		{2, 1, []byte{96, 2, 127, 127, 1, 127}},
		{0, 0, []byte{96, 0, 0}},
		{0, 1, []byte{96, 0, 1, 127}},
		{1, 0, []byte{96, 1, 127, 0}},
		{1, 1, []byte{96, 1, 127, 1, 127}},
		{127, 0, slices.Concat([]byte{96, 127}, words(127), []byte{0})},
		{128, 1, slices.Concat([]byte{96, 128, 1}, words(128), []byte{1, 127})},
		{255, 1, slices.Concat([]byte{96, 255, 1}, words(255), []byte{1, 127})},
		{255, 0, slices.Concat([]byte{96, 255, 1}, words(255), []byte{0})},
	} {
		if b, e := Put(api.FuncType{Params: p.params, Results: p.results}); e != api.OK || !bytes.Equal(b, p.want) {
			t.Errorf("Put(%d, %d) = %v, %v; want %v", p.params, p.results, b, e, p.want)
		}
	}
	everyType(func(x api.FuncType) {
		if b, e := Put(x); e != api.OK || !bytes.Equal(b, typeBytes(x)) {
			t.Fatalf("Put(%v) = %v, %v; want %v", x, b, e, typeBytes(x))
		}
	})
}

// P4.1, the chapter's examples of PutLimits, and the edges of what is valid.
func TestPutLimitsExamples(t *testing.T) {
	const last = math.MaxUint32
	for _, p := range []struct {
		l    api.Limits
		most uint32
		want []byte
		e    api.Errno
	}{
		{api.Limits{Min: 4, Max: 10, Capped: true}, 65536, []byte{1, 4, 10}, api.OK},
		{api.Limits{Min: 4}, 65536, []byte{0, 4}, api.OK},
		{api.Limits{Min: 4, Max: 3, Capped: true}, 65536, nil, api.ErrArg},
		{api.Limits{}, 0, []byte{0, 0}, api.OK},
		{api.Limits{Capped: true}, 0, []byte{1, 0, 0}, api.OK},
		{api.Limits{Min: 1}, 0, nil, api.ErrArg},
		{api.Limits{Max: 1, Capped: true}, 0, nil, api.ErrArg},
		{api.Limits{Min: 1, Max: 1, Capped: true}, 0, nil, api.ErrArg},
		{api.Limits{Min: 1, Capped: true}, 0, nil, api.ErrArg},
		// At the bound, and above it.
		{api.Limits{Min: 65536}, 65536, []byte{0, 128, 128, 4}, api.OK},
		{api.Limits{Min: 65537}, 65536, nil, api.ErrArg},
		{api.Limits{Min: 65536, Max: 65536, Capped: true}, 65536, []byte{1, 128, 128, 4, 128, 128, 4}, api.OK},
		{api.Limits{Min: 0, Max: 65536, Capped: true}, 65536, []byte{1, 0, 128, 128, 4}, api.OK},
		{api.Limits{Min: 0, Max: 65537, Capped: true}, 65536, nil, api.ErrArg},
		{api.Limits{Min: 65537, Max: 65537, Capped: true}, 65536, nil, api.ErrArg},
		{api.Limits{Min: 65537, Max: 65536, Capped: true}, 65536, nil, api.ErrArg},
		{api.Limits{Min: last}, last, []byte{0, 255, 255, 255, 255, 15}, api.OK},
		{api.Limits{Min: last, Max: last, Capped: true}, last, []byte{1, 255, 255, 255, 255, 15, 255, 255, 255, 255, 15}, api.OK},
		{api.Limits{Min: last, Max: last - 1, Capped: true}, last, nil, api.ErrArg},
		// Max is there, though they are not Capped.
		{api.Limits{Min: 4, Max: 1}, 65536, nil, api.ErrArg},
		{api.Limits{Min: 4, Max: 10}, 65536, nil, api.ErrArg},
		{api.Limits{Max: last}, last, nil, api.ErrArg},
	} {
		if e := CheckLimits(p.l, p.most); e != p.e {
			t.Errorf("CheckLimits(%v, %d) = %v, want %v", p.l, p.most, e, p.e)
		}
		if b, e := PutLimits(p.l, p.most); e != p.e || !bytes.Equal(b, p.want) {
			t.Errorf("PutLimits(%v, %d) = %v, %v; want %v, %v", p.l, p.most, b, e, p.want, p.e)
		}
	}
}

// P4.1: all limits that have their numbers at edges, within bounds that are at edges.
func TestLimitsEvery(t *testing.T) {
	everyLimits(func(l api.Limits, most uint32) {
		want, e := []byte(nil), api.ErrArg
		if isLimits(l, most) {
			want, e = append([]byte{0}, leb.PutU(l.Min)...), api.OK
		}
		if e == api.OK && l.Capped {
			want = slices.Concat([]byte{1}, leb.PutU(l.Min), leb.PutU(l.Max))
		}
		if got := CheckLimits(l, most); got != e {
			t.Fatalf("CheckLimits(%v, %d) = %v, want %v", l, most, got, e)
		}
		if b, got := PutLimits(l, most); got != e || !bytes.Equal(b, want) || e != api.OK && b != nil {
			t.Fatalf("PutLimits(%v, %d) = %v, %v; want %v, %v", l, most, b, got, want, e)
		}
	})
}

// P4.2, the chapter's examples, and each fault.
func TestGetExamples(t *testing.T) {
	for _, p := range []struct {
		b               []byte
		at              int
		params, results int
		next            int
		f               api.Fault
	}{
		{[]byte{96, 2, 127, 127, 1, 127}, 0, 2, 1, 6, api.Fault{}},
		{[]byte{96, 0, 0}, 0, 0, 0, 3, api.Fault{}},
		{[]byte{96, 0, 1, 127}, 0, 0, 1, 4, api.Fault{}},
		{[]byte{9, 9, 96, 1, 127, 0, 127}, 2, 1, 0, 6, api.Fault{}},
		{[]byte{96, 129, 0, 127, 129, 128, 0, 127}, 0, 1, 1, 8, api.Fault{}},
		{[]byte{96, 128, 128, 128, 128, 0, 128, 0}, 0, 0, 0, 8, api.Fault{}},
		// The place.
		{[]byte{96, 0, 0}, -1, 0, 0, 0, faultAt(api.ErrRange, 0)},
		{[]byte{96, 0, 0}, 4, 0, 0, 0, faultAt(api.ErrRange, 0)},
		{[]byte{96, 0, 0}, math.MaxInt, 0, 0, 0, faultAt(api.ErrRange, 0)},
		{[]byte{96, 0, 0}, math.MinInt, 0, 0, 0, faultAt(api.ErrRange, 0)},
		{nil, 1, 0, 0, 0, faultAt(api.ErrRange, 0)},
		{nil, -1, 0, 0, 0, faultAt(api.ErrRange, 0)},
		// The end.
		{nil, 0, 0, 0, 0, faultAt(api.ErrBytes, 0)},
		{[]byte{96, 0, 0}, 3, 0, 0, 0, faultAt(api.ErrBytes, 3)},
		{[]byte{96}, 0, 0, 0, 0, faultAt(api.ErrBytes, 1)},
		{[]byte{96, 1}, 0, 0, 0, 0, faultAt(api.ErrBytes, 2)},
		{[]byte{96, 255, 1, 127}, 0, 0, 0, 0, faultAt(api.ErrBytes, 4)},
		{[]byte{96, 1, 127}, 0, 0, 0, 0, faultAt(api.ErrBytes, 3)},
		{[]byte{96, 1, 127, 1}, 0, 0, 0, 0, faultAt(api.ErrBytes, 4)},
		{[]byte{9, 96, 0, 1}, 1, 0, 0, 0, faultAt(api.ErrBytes, 4)},
		// A byte that is another one.
		{[]byte{95}, 0, 0, 0, 0, faultAt(api.ErrTag, 0)},
		{[]byte{127, 0, 0}, 0, 0, 0, 0, faultAt(api.ErrTag, 0)},
		{[]byte{96, 1, 126}, 0, 0, 0, 0, faultAt(api.ErrTag, 2)},
		{[]byte{96, 2, 127, 96, 0}, 0, 0, 0, 0, faultAt(api.ErrTag, 3)},
		{[]byte{96, 0, 1, 126}, 0, 0, 0, 0, faultAt(api.ErrTag, 3)},
		{[]byte{9, 96, 3, 127, 0}, 1, 0, 0, 0, faultAt(api.ErrTag, 4)},
		// A number that is none.
		{[]byte{96, 128}, 0, 0, 0, 0, faultAt(api.ErrBytes, 2)},
		{[]byte{96, 128, 128, 128, 128, 16, 0}, 0, 0, 0, 0, faultAt(api.ErrBytes, 5)},
		{[]byte{96, 0, 255}, 0, 0, 0, 0, faultAt(api.ErrBytes, 3)},
		{[]byte{96, 0, 129, 128, 128, 128, 128}, 0, 0, 0, 0, faultAt(api.ErrBytes, 6)},
		// A number that is too great.
		{[]byte{96, 128, 2}, 0, 0, 0, 0, faultAt(api.ErrMany, 1)},
		{[]byte{96, 255, 255, 255, 255, 15}, 0, 0, 0, 0, faultAt(api.ErrMany, 1)},
		{[]byte{9, 9, 96, 128, 130, 0}, 2, 0, 0, 0, faultAt(api.ErrMany, 3)},
		{[]byte{96, 0, 2}, 0, 0, 0, 0, faultAt(api.ErrMany, 2)},
		{[]byte{96, 1, 127, 130, 0, 127}, 0, 0, 0, 0, faultAt(api.ErrMany, 3)},
		{[]byte{96, 0, 128, 128, 128, 128, 8}, 0, 0, 0, 0, faultAt(api.ErrMany, 2)},
		// Byte by byte: the first fault is told, not one behind it.
		{[]byte{96, 1, 126, 2}, 0, 0, 0, 0, faultAt(api.ErrTag, 2)},
		{[]byte{96, 128, 2, 126}, 0, 0, 0, 0, faultAt(api.ErrMany, 1)},
		{[]byte{96, 2, 126}, 0, 0, 0, 0, faultAt(api.ErrTag, 2)},
		{[]byte{95, 128}, 0, 0, 0, 0, faultAt(api.ErrTag, 0)},
	} {
		want := api.FuncType{Params: p.params, Results: p.results}
		if x, next, f := Get(p.b, p.at); x != want || next != p.next || f != p.f {
			t.Errorf("Get(%v, %d) = %v, %d, %v; want %v, %d, %v", p.b, p.at, x, next, f, want, p.next, p.f)
		}
		checkGet(t, p.b, p.at)
	}
}

// P4.2: all short lists of bytes at edges, at each place and at those beyond.
func TestGetEvery(t *testing.T) {
	some := []byte{0, 1, 2, 3, 95, 96, 97, 126, 127, 128, 129, 255}
	everyBytes(some, 3, func(b []byte) {
		for at := -2; at <= len(b)+2; at++ {
			checkGet(t, b, at)
		}
	})
	everyBytes(some, 4, func(b []byte) { checkGet(t, append([]byte{96}, b...), 0) })
	everyBytes([]byte{0, 1, 2, 127, 128}, 6, func(b []byte) { checkGet(t, append([]byte{9, 96}, b...), 1) })
}

// P4.2: valid types, cut off at each place, and with each byte of them another one; bytes in front and behind.
func TestGetSpoiled(t *testing.T) {
	for _, x := range []api.FuncType{{}, {Results: 1}, {Params: 1}, {Params: 2, Results: 1}, {Params: 127}, {Params: 128, Results: 1}, {Params: 255}, {Params: 255, Results: 1}} {
		for _, ahead := range [][]byte{nil, {0}, {96, 128}} {
			whole := slices.Concat(ahead, typeBytes(x), []byte{127, 96})
			end := len(whole) - 2
			for n := len(ahead); n < end; n++ {
				if y, next, f := Get(whole[:n], len(ahead)); y != (api.FuncType{}) || next != 0 || f != faultAt(api.ErrBytes, n) {
					t.Fatalf("Get(%v, %d) = %v, %d, %v", whole[:n], len(ahead), y, next, f)
				}
			}
			for n := len(ahead); n < end; n++ {
				for _, c := range []byte{0, 1, 2, 64, 95, 96, 97, 112, 126, 127, 128, 129, 255} {
					spoiled := slices.Clone(whole)
					spoiled[n] = c
					checkGet(t, spoiled, len(ahead))
				}
			}
			if y, next, f := Get(whole, len(ahead)); y != x || next != end || f != (api.Fault{}) {
				t.Fatalf("Get(%v, %d) = %v, %d, %v; want %v, %d", whole, len(ahead), y, next, f, x, end)
			}
		}
	}
}

// P4.2: every byte that a type may not begin with, and that is no word.
func TestGetWrongByte(t *testing.T) {
	for c := range 256 {
		for n, b := range [][]byte{{byte(c), 0, 0}, {96, 1, byte(c), 0}, {96, 2, 127, byte(c), 0}, {96, 0, 1, byte(c)}} {
			place, right := []int{0, 2, 3, 3}[n], []int{96, 127, 127, 127}[n]
			want := api.Fault{}
			if c != right {
				want = faultAt(api.ErrTag, place)
			}
			if _, _, f := Get(b, 0); f != want {
				t.Errorf("Get(%v, 0): %v, want %v", b, f, want)
			}
		}
	}
}

// P4.2: each number of words that are taken, and of those that are returned, in all the ways in which leb can have it.
func TestGetNumbers(t *testing.T) {
	for n := range uint32(600) {
		for _, number := range longerNumbers(n) {
			words := bytes.Repeat([]byte{127}, int(n))
			taken := slices.Concat([]byte{7, 96}, number, words, []byte{0})
			want, wantNext, wantFault := api.FuncType{Params: int(n)}, len(taken), api.Fault{}
			if n > 255 {
				want, wantNext, wantFault = api.FuncType{}, 0, faultAt(api.ErrMany, 2)
			}
			if x, next, f := Get(taken, 1); x != want || next != wantNext || f != wantFault {
				t.Fatalf("%d are taken (%v): %v, %d, %v", n, number, x, next, f)
			}
			returned := slices.Concat([]byte{7, 96, 1, 127}, number, words)
			want, wantNext, wantFault = api.FuncType{Params: 1, Results: int(n)}, len(returned), api.Fault{}
			if n > 1 {
				want, wantNext, wantFault = api.FuncType{}, 0, faultAt(api.ErrMany, 4)
			}
			if x, next, f := Get(returned, 1); x != want || next != wantNext || f != wantFault {
				t.Fatalf("%d are returned (%v): %v, %d, %v", n, number, x, next, f)
			}
		}
	}
}

// P4.2 and P4.3: the faults of leb.GetU, wherever a number stands.
func TestRefusedNumbers(t *testing.T) {
	for place, number := range refusedNumbers() {
		for _, head := range [][]byte{{96}, {96, 0}, {96, 2, 127, 127}, {9, 96, 1, 127}} {
			at := bytes.IndexByte(head, 96)
			want := faultAt(api.ErrBytes, len(head)+place)
			if x, next, f := Get(slices.Concat(head, number), at); x != (api.FuncType{}) || next != 0 || f != want {
				t.Errorf("Get(%v %v, %d) = %v, %d, %v; want %v", head, number, at, x, next, f, want)
			}
		}
		for _, head := range [][]byte{{0}, {1}, {1, 4}, {1, 132, 0}, {9, 1, 4}} {
			at := bytes.IndexByte(head, 9) + 1
			want := faultAt(api.ErrBytes, len(head)+place)
			if l, next, f := GetLimits(slices.Concat(head, number), at, 100); l != (api.Limits{}) || next != 0 || f != want {
				t.Errorf("GetLimits(%v %v, %d, 100) = %v, %d, %v; want %v", head, number, at, l, next, f, want)
			}
		}
	}
}

// P4.3, the chapter's examples, and each fault.
func TestGetLimitsExamples(t *testing.T) {
	none := api.Limits{}
	for _, p := range []struct {
		b    []byte
		at   int
		most uint32
		l    api.Limits
		next int
		f    api.Fault
	}{
		{[]byte{1, 4, 10}, 0, 100, api.Limits{Min: 4, Max: 10, Capped: true}, 3, api.Fault{}},
		{[]byte{0, 4}, 0, 100, api.Limits{Min: 4}, 2, api.Fault{}},
		{[]byte{0, 4, 3}, 0, 100, api.Limits{Min: 4}, 2, api.Fault{}},
		{[]byte{9, 9, 1, 4, 4, 128}, 2, 100, api.Limits{Min: 4, Max: 4, Capped: true}, 5, api.Fault{}},
		{[]byte{1, 132, 0, 138, 128, 0}, 0, 100, api.Limits{Min: 4, Max: 10, Capped: true}, 6, api.Fault{}},
		{[]byte{0, 0}, 0, 0, none, 2, api.Fault{}},
		{[]byte{1, 0, 0}, 0, 0, api.Limits{Capped: true}, 3, api.Fault{}},
		{[]byte{0, 100}, 0, 100, api.Limits{Min: 100}, 2, api.Fault{}},
		{[]byte{1, 100, 100}, 0, 100, api.Limits{Min: 100, Max: 100, Capped: true}, 3, api.Fault{}},
		{[]byte{0, 255, 255, 255, 255, 15}, 0, math.MaxUint32, api.Limits{Min: math.MaxUint32}, 6, api.Fault{}},
		// The place.
		{[]byte{0, 4}, -1, 100, none, 0, faultAt(api.ErrRange, 0)},
		{[]byte{0, 4}, 3, 100, none, 0, faultAt(api.ErrRange, 0)},
		{[]byte{0, 4}, math.MaxInt, 100, none, 0, faultAt(api.ErrRange, 0)},
		{[]byte{0, 4}, math.MinInt, 100, none, 0, faultAt(api.ErrRange, 0)},
		{nil, 1, 100, none, 0, faultAt(api.ErrRange, 0)},
		{nil, -1, 100, none, 0, faultAt(api.ErrRange, 0)},
		// The end.
		{nil, 0, 100, none, 0, faultAt(api.ErrBytes, 0)},
		{[]byte{0, 4}, 2, 100, none, 0, faultAt(api.ErrBytes, 2)},
		{[]byte{0}, 0, 100, none, 0, faultAt(api.ErrBytes, 1)},
		{[]byte{1}, 0, 100, none, 0, faultAt(api.ErrBytes, 1)},
		{[]byte{1, 4}, 0, 100, none, 0, faultAt(api.ErrBytes, 2)},
		{[]byte{1, 4, 128}, 0, 100, none, 0, faultAt(api.ErrBytes, 3)},
		{[]byte{9, 0, 128}, 1, 100, none, 0, faultAt(api.ErrBytes, 3)},
		// The first byte.
		{[]byte{2}, 0, 100, none, 0, faultAt(api.ErrTag, 0)},
		{[]byte{255, 4, 10}, 0, 100, none, 0, faultAt(api.ErrTag, 0)},
		{[]byte{128, 0, 4}, 0, 100, none, 0, faultAt(api.ErrTag, 0)},
		{[]byte{0, 4, 2, 4}, 2, 100, none, 0, faultAt(api.ErrTag, 2)},
		// The bound, and Max below Min.
		{[]byte{1, 4, 3}, 0, 100, none, 0, faultAt(api.ErrMany, 2)},
		{[]byte{0, 101}, 0, 100, none, 0, faultAt(api.ErrMany, 1)},
		{[]byte{1, 4, 101}, 0, 100, none, 0, faultAt(api.ErrMany, 2)},
		{[]byte{1, 101, 101}, 0, 100, none, 0, faultAt(api.ErrMany, 1)},
		{[]byte{1, 101, 100}, 0, 100, none, 0, faultAt(api.ErrMany, 1)},
		{[]byte{1, 0, 1}, 0, 0, none, 0, faultAt(api.ErrMany, 2)},
		{[]byte{9, 1, 228, 0, 227, 0}, 1, 100, none, 0, faultAt(api.ErrMany, 4)},
		{[]byte{9, 9, 1, 132, 128, 0, 255, 255, 255, 255, 15}, 2, 100, none, 0, faultAt(api.ErrMany, 6)},
		{[]byte{0, 129, 128, 4}, 0, 65536, none, 0, faultAt(api.ErrMany, 1)},
		// The faults of leb.GetU are named ahead of ErrMany.
		{[]byte{1, 101}, 0, 100, none, 0, faultAt(api.ErrBytes, 2)},
		{[]byte{1, 101, 255}, 0, 100, none, 0, faultAt(api.ErrBytes, 3)},
		{[]byte{1, 229, 0, 128, 128, 128, 128, 16}, 0, 100, none, 0, faultAt(api.ErrBytes, 7)},
	} {
		if l, next, f := GetLimits(p.b, p.at, p.most); l != p.l || next != p.next || f != p.f {
			t.Errorf("GetLimits(%v, %d, %d) = %v, %d, %v; want %v, %d, %v", p.b, p.at, p.most, l, next, f, p.l, p.next, p.f)
		}
		checkGetLimits(t, p.b, p.at, p.most)
	}
}

// P4.3: all short lists of bytes at edges, at each place and at those beyond, within several bounds.
func TestGetLimitsEvery(t *testing.T) {
	some := []byte{0, 1, 2, 3, 99, 100, 101, 127, 128, 129, 255}
	for _, most := range []uint32{0, 1, 100, 128, 65536, math.MaxUint32} {
		everyBytes(some, 3, func(b []byte) {
			for at := -2; at <= len(b)+2; at++ {
				checkGetLimits(t, b, at, most)
			}
		})
		everyBytes(some, 4, func(b []byte) {
			checkGetLimits(t, append([]byte{0}, b...), 0, most)
			checkGetLimits(t, append([]byte{9, 1}, b...), 1, most)
		})
	}
	for c := range 256 {
		checkGetLimits(t, []byte{byte(c), 4, 10}, 0, 100)
	}
}

// P4.3: numbers at edges, in all the ways in which leb can have them, within bounds at edges; cut off at each place; bytes in front and behind.
func TestGetLimitsNumbers(t *testing.T) {
	everyLimits(func(l api.Limits, most uint32) {
		for _, low := range longerNumbers(l.Min) {
			b := slices.Concat([]byte{8, 8, 0}, low)
			if l.Capped {
				b = slices.Concat([]byte{8, 8, 1}, low, leb.PutU(l.Max))
			}
			checkGetLimits(t, b, 2, most)
			checkGetLimits(t, append(b, 128), 2, most)
		}
	})
	for _, most := range []uint32{100, 65536, 1 << 20} {
		for _, low := range longerNumbers(100) {
			for _, high := range longerNumbers(65536) {
				b := slices.Concat([]byte{1}, low, high)
				for n := range len(b) {
					if l, next, f := GetLimits(b[:n], 0, most); l != (api.Limits{}) || next != 0 || f != faultAt(api.ErrBytes, n) {
						t.Fatalf("GetLimits(%v, 0, %d) = %v, %d, %v", b[:n], most, l, next, f)
					}
				}
				checkGetLimits(t, b, 0, most)
			}
		}
	}
}

// P4.4: what is encoded is read as it was, whatever stands around it.
func TestPutThenGet(t *testing.T) {
	around := func(b []byte, f func(whole []byte, at int)) {
		for _, ahead := range [][]byte{nil, {0}, {96, 1}, {255, 128}} {
			for _, behind := range [][]byte{nil, {0}, {127}, {128, 128}} {
				f(slices.Concat(ahead, b, behind), len(ahead))
			}
		}
	}
	everyType(func(x api.FuncType) {
		b, _ := Put(x)
		around(b, func(whole []byte, at int) {
			if y, next, f := Get(whole, at); y != x || next != at+len(b) || f != (api.Fault{}) {
				t.Fatalf("Get(%v, %d) = %v, %d, %v; want %v", whole, at, y, next, f, x)
			}
		})
	})
	everyLimits(func(l api.Limits, most uint32) {
		b, e := PutLimits(l, most)
		if e != api.OK {
			return
		}
		around(b, func(whole []byte, at int) {
			if m, next, f := GetLimits(whole, at, most); m != l || next != at+len(b) || f != (api.Fault{}) {
				t.Fatalf("GetLimits(%v, %d, %d) = %v, %d, %v; want %v", whole, at, most, m, next, f, l)
			}
		})
	})
}

// P4.4: the encoding of what is read is not longer than what was read, and is read as the same.
func TestGetThenPut(t *testing.T) {
	holdType := func(b []byte) {
		x, next, f := Get(b, 0)
		if f.Err != api.OK {
			return
		}
		c, e := Put(x)
		y, end, f := Get(c, 0)
		if e != api.OK || len(c) > next || y != x || end != len(c) || f.Err != api.OK {
			t.Fatalf("%v is read up to %d as %v, which is written as %v, %v", b, next, x, c, e)
		}
	}
	everyBytes([]byte{0, 1, 2, 127, 128, 129}, 6, func(b []byte) { holdType(append([]byte{96}, b...)) })
	for n := range uint32(256) {
		for _, number := range longerNumbers(n) {
			holdType(slices.Concat([]byte{96}, number, bytes.Repeat([]byte{127}, int(n)), []byte{129, 0, 127}))
		}
	}
	everyBytes([]byte{0, 1, 2, 100, 127, 128, 129, 255}, 5, func(b []byte) {
		for _, most := range []uint32{1, 100, 65536, math.MaxUint32} {
			l, next, f := GetLimits(b, 0, most)
			if f.Err != api.OK {
				continue
			}
			c, e := PutLimits(l, most)
			m, end, f := GetLimits(c, 0, most)
			if e != api.OK || len(c) > next || m != l || end != len(c) || f.Err != api.OK {
				t.Fatalf("%v is read up to %d as %v, which is written as %v, %v", b, next, l, c, e)
			}
		}
	})
}

// What lies behind a list's end isn't read, and nothing of it is changed.
func TestEndIsEnd(t *testing.T) {
	b := []byte{96, 2, 127, 127, 1, 127, 1, 4, 10}
	for n := range 6 {
		if x, next, f := Get(b[:n], 0); x != (api.FuncType{}) || next != 0 || f != faultAt(api.ErrBytes, n) {
			t.Errorf("Get of %d bytes: %v, %d, %v", n, x, next, f)
		}
	}
	for n := 6; n < 9; n++ {
		if l, next, f := GetLimits(b[:n], 6, 100); l != (api.Limits{}) || next != 0 || f != faultAt(api.ErrBytes, n) {
			t.Errorf("GetLimits of %d bytes: %v, %d, %v", n, l, next, f)
		}
	}
	if !bytes.Equal(b, []byte{96, 2, 127, 127, 1, 127, 1, 4, 10}) {
		t.Error(b)
	}
}

// A result is new memory, with its spare capacity.
func TestNewMemory(t *testing.T) {
	for range 2 {
		b, _ := Put(api.FuncType{Params: 2, Results: 1})
		if !bytes.Equal(b, []byte{96, 2, 127, 127, 1, 127}) {
			t.Error(b)
		}
		clear(b[:cap(b)])
		for _, p := range []struct {
			l    api.Limits
			want []byte
		}{{api.Limits{Min: 4, Max: 10, Capped: true}, []byte{1, 4, 10}}, {api.Limits{Min: 4}, []byte{0, 4}}} {
			c, _ := PutLimits(p.l, 100)
			if !bytes.Equal(c, p.want) {
				t.Error(c)
			}
			clear(c[:cap(c)])
		}
	}
}
