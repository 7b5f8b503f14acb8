package num

import (
	"math"
	"testing"

	"gimlet/api"
)

const (
	half  = int64(1) << 31
	whole = int64(1) << 32
)

// ones and twos are the chapter's table: which operations there are, by how many words they take.
func ones() []int { return []int{api.OpEqz, api.OpClz, api.OpCtz, api.OpPopcnt} }

func twos() []int {
	return []int{
		api.OpEq, api.OpNe, api.OpLtS, api.OpGtS, api.OpLeS, api.OpGeS, api.OpLtU, api.OpGtU, api.OpLeU, api.OpGeU,
		api.OpAdd, api.OpSub, api.OpMul, api.OpDivS, api.OpDivU, api.OpRemS, api.OpRemU,
		api.OpAnd, api.OpOr, api.OpXor, api.OpShl, api.OpShrU, api.OpShrS, api.OpRotl, api.OpRotr,
	}
}

// strangers are numbers that are no operation of either arity: those between the ranges and beyond them, and those that would be one if they were cut to fewer bits.
func strangers() []int {
	out := []int{math.MinInt, math.MinInt32, -256 + api.OpAdd, -2, -1, 0, 1, 2, 121, 255, 256, 1000, math.MaxInt32, math.MaxInt}
	for op := range api.OpEqz {
		out = append(out, op)
	}
	for op := api.OpGeU + 1; op < api.OpClz; op++ {
		out = append(out, op)
	}
	for op := api.OpRotr + 1; op < 600; op++ {
		out = append(out, op)
	}
	for _, op := range append(ones(), twos()...) {
		out = append(out, -op, ^op, op+1<<8, op+1<<16, op+1<<32, op-1<<32, op+math.MinInt)
	}
	return out
}

// edgeWords are around every power of two and its negative, with some that have bits everywhere.
func edgeWords() []uint32 {
	out := []uint32{1<<32 - 7, 100, 1000000007, 3000000019, 0x55555555, 0xaaaaaaaa, 0x12345678, 0xdeadbeef, 0x00ff00ff, 0xf000000f}
	for k := range 33 {
		for d := int64(-1); d <= 1; d++ {
			out = append(out, word(int64(1)<<k+d), word(-int64(1)<<k+d))
		}
	}
	return out
}

// word is a number modulo 2^32.
func word(n int64) uint32 { return uint32(((n % whole) + whole) % whole) }

// signed is the chapter's definition.
func signed(a uint32) int64 {
	if int64(a) >= half {
		return int64(a) - whole
	}
	return int64(a)
}

func yes(holds bool) uint32 {
	if holds {
		return 1
	}
	return 0
}

// digits are a word's bits, the lowest first, by division; number is the word that they are.
func digits(a uint32) [32]int64 {
	var out [32]int64
	n := int64(a)
	for i := range out {
		out[i], n = n%2, n/2
	}
	return out
}

func number(d [32]int64) uint32 {
	n := int64(0)
	for i := range d {
		n = 2*n + d[31-i]
	}
	return uint32(n)
}

// zeros is how many digits from one end on are 0.
func zeros(a uint32, fromTop bool) uint32 {
	d := digits(a)
	for i := range d {
		at := i
		if fromTop {
			at = 31 - i
		}
		if d[at] != 0 {
			return uint32(i)
		}
	}
	return 32
}

// readOne is the chapter's table for one word, said another way.
func readOne(op int, a uint32) uint32 {
	switch op {
	case api.OpEqz:
		return yes(int64(a) == 0)
	case api.OpClz:
		return zeros(a, true)
	case api.OpCtz:
		return zeros(a, false)
	case api.OpPopcnt:
		sum := int64(0)
		for _, d := range digits(a) {
			sum += d
		}
		return uint32(sum)
	}
	panic("no operation on one word")
}

// order compares numbers, as an operation takes them; ok tells whether it is a comparison.
func order(op int, a, b uint32) (result uint32, ok bool) {
	x, y := int64(a), int64(b)
	switch op {
	case api.OpLtS, api.OpGtS, api.OpLeS, api.OpGeS:
		x, y = signed(a), signed(b)
	}
	switch op {
	case api.OpEq:
		return yes(x-y == 0), true
	case api.OpNe:
		return yes(x-y != 0), true
	case api.OpLtS, api.OpLtU:
		return yes(x-y < 0), true
	case api.OpGtS, api.OpGtU:
		return yes(x-y > 0), true
	case api.OpLeS, api.OpLeU:
		return yes(x-y <= 0), true
	case api.OpGeS, api.OpGeU:
		return yes(x-y >= 0), true
	}
	return 0, false
}

// bitwise makes each digit of the result from digits of a and b; ok tells whether an operation is of this kind.
func bitwise(op int, a, b uint32) (result uint32, ok bool) {
	x, y := digits(a), digits(b)
	by := int(int64(b) % 32)
	fill := int64(0)
	if op == api.OpShrS {
		fill = x[31]
	}
	at := func(i int) int64 {
		if i < 0 || i > 31 {
			return fill
		}
		return x[i]
	}
	var out [32]int64
	for i := range out {
		switch op {
		case api.OpAnd:
			out[i] = x[i] * y[i]
		case api.OpOr:
			out[i] = max(x[i], y[i])
		case api.OpXor:
			out[i] = (x[i] + y[i]) % 2
		case api.OpShl:
			out[i] = at(i - by)
		case api.OpShrU, api.OpShrS:
			out[i] = at(i + by)
		case api.OpRotl:
			out[i] = x[(i-by+32)%32]
		case api.OpRotr:
			out[i] = x[(i+by)%32]
		default:
			return 0, false
		}
	}
	return number(out), true
}

// divided is P3.2 of divisions: quotient and remainder by what they are of the numbers without their signs.
func divided(op int, a, b uint32) (uint32, api.Errno) {
	x, y := int64(a), int64(b)
	if op == api.OpDivS || op == api.OpRemS {
		x, y = signed(a), signed(b)
	}
	if y == 0 {
		return 0, api.ErrNought
	}
	q, r := max(x, -x)/max(y, -y), max(x, -x)%max(y, -y)
	if (x < 0) != (y < 0) {
		q = -q
	}
	if x < 0 {
		r = -r
	}
	if op == api.OpRemS || op == api.OpRemU {
		return word(r), api.OK
	}
	if op == api.OpDivS && q == half {
		return 0, api.ErrOver
	}
	return word(q), api.OK
}

// readTwo is the chapter's table for two words, said another way.
func readTwo(op int, a, b uint32) (uint32, api.Errno) {
	if v, ok := order(op, a, b); ok {
		return v, api.OK
	}
	if v, ok := bitwise(op, a, b); ok {
		return v, api.OK
	}
	switch op {
	case api.OpAdd:
		return word(int64(a) + int64(b)), api.OK
	case api.OpSub:
		return word(int64(a) - int64(b)), api.OK
	case api.OpMul:
		return word(signed(a) * signed(b)), api.OK
	case api.OpDivS, api.OpDivU, api.OpRemS, api.OpRemU:
		return divided(op, a, b)
	}
	panic("no operation on two words")
}

// mustTwo is a result that there must be.
func mustTwo(t *testing.T, op int, a, b uint32) uint32 {
	t.Helper()
	v, e := Two(op, a, b)
	if e != api.OK {
		t.Fatalf("Two(%#x, %d, %d) = %v", op, a, b, e)
	}
	return v
}

// P3.1: the operations of the table, and nothing else.
func TestArity(t *testing.T) {
	for _, op := range ones() {
		if n := Arity(op); n != 1 {
			t.Errorf("Arity(%#x) = %d, want 1", op, n)
		}
	}
	for _, op := range twos() {
		if n := Arity(op); n != 2 {
			t.Errorf("Arity(%#x) = %d, want 2", op, n)
		}
	}
	for _, op := range strangers() {
		if n := Arity(op); n != 0 {
			t.Errorf("Arity(%d) = %d, want 0", op, n)
		}
	}
}

// P3.2: what is no operation of the arity asked is refused, before all else.
func TestNoOperation(t *testing.T) {
	words := []uint32{0, 1, 1<<31 - 1, 1 << 31, 1<<32 - 1}
	for _, op := range append(strangers(), twos()...) {
		for _, a := range words {
			if v, e := One(op, a); v != 0 || e != api.ErrArg {
				t.Errorf("One(%d, %d) = %d, %v", op, a, v, e)
			}
		}
	}
	for _, op := range append(strangers(), ones()...) {
		for _, a := range words {
			for _, b := range words {
				if v, e := Two(op, a, b); v != 0 || e != api.ErrArg {
					t.Errorf("Two(%d, %d, %d) = %d, %v", op, a, b, v, e)
				}
			}
		}
	}
}

// P3.2, the chapter's examples of it and each operation on one word at the edges.
func TestOneExamples(t *testing.T) {
	for _, p := range []struct {
		op   int
		a    uint32
		want uint32
	}{
		{api.OpEqz, 0, 1},
		{api.OpEqz, 1, 0},
		{api.OpEqz, 2, 0},
		{api.OpEqz, 1<<31 - 1, 0},
		{api.OpEqz, 1 << 31, 0},
		{api.OpEqz, 1<<32 - 1, 0},
		{api.OpClz, 0, 32},
		{api.OpClz, 1, 31},
		{api.OpClz, 8, 28},
		{api.OpClz, 1<<31 - 1, 1},
		{api.OpClz, 1 << 31, 0},
		{api.OpClz, 1<<32 - 1, 0},
		{api.OpCtz, 0, 32},
		{api.OpCtz, 1, 0},
		{api.OpCtz, 8, 3},
		{api.OpCtz, 1<<31 - 1, 0},
		{api.OpCtz, 1 << 31, 31},
		{api.OpCtz, 1<<32 - 1, 0},
		{api.OpPopcnt, 0, 0},
		{api.OpPopcnt, 1, 1},
		{api.OpPopcnt, 255, 8},
		{api.OpPopcnt, 1<<31 - 1, 31},
		{api.OpPopcnt, 1 << 31, 1},
		{api.OpPopcnt, 1<<32 - 1, 32},
	} {
		if v, e := One(p.op, p.a); v != p.want || e != api.OK {
			t.Errorf("One(%#x, %d) = %d, %v; want %d", p.op, p.a, v, e, p.want)
		}
	}
	if v, e := One(api.OpAdd, 1); v != 0 || e != api.ErrArg {
		t.Errorf("One(OpAdd, 1) = %d, %v", v, e)
	}
}

// P3.2: comparisons, of words that are ordered otherwise when they are taken as signed.
func TestComparisonExamples(t *testing.T) {
	const top, last = 1 << 31, 1<<32 - 1
	for _, p := range []struct {
		a, b                                           uint32
		eq, ne, ltS, gtS, leS, geS, ltU, gtU, leU, geU uint32
	}{
		{0, 0, 1, 0, 0, 0, 1, 1, 0, 0, 1, 1},
		{3, 5, 0, 1, 1, 0, 1, 0, 1, 0, 1, 0},
		{5, 3, 0, 1, 0, 1, 0, 1, 0, 1, 0, 1},
		{0, 1, 0, 1, 1, 0, 1, 0, 1, 0, 1, 0},
		{0, last, 0, 1, 0, 1, 0, 1, 1, 0, 1, 0},
		{last, 0, 0, 1, 1, 0, 1, 0, 0, 1, 0, 1},
		{last, last, 1, 0, 0, 0, 1, 1, 0, 0, 1, 1},
		{top, top - 1, 0, 1, 1, 0, 1, 0, 0, 1, 0, 1},
		{top - 1, top, 0, 1, 0, 1, 0, 1, 1, 0, 1, 0},
		{top, top, 1, 0, 0, 0, 1, 1, 0, 0, 1, 1},
		{top, last, 0, 1, 1, 0, 1, 0, 1, 0, 1, 0},
		{top, 0, 0, 1, 1, 0, 1, 0, 0, 1, 0, 1},
	} {
		ops := []int{api.OpEq, api.OpNe, api.OpLtS, api.OpGtS, api.OpLeS, api.OpGeS, api.OpLtU, api.OpGtU, api.OpLeU, api.OpGeU}
		for i, want := range []uint32{p.eq, p.ne, p.ltS, p.gtS, p.leS, p.geS, p.ltU, p.gtU, p.leU, p.geU} {
			if v, e := Two(ops[i], p.a, p.b); v != want || e != api.OK {
				t.Errorf("Two(%#x, %d, %d) = %d, %v; want %d", ops[i], p.a, p.b, v, e, want)
			}
		}
	}
}

// P3.2: sums, differences, products and bits, beyond the highest word too.
func TestArithmeticExamples(t *testing.T) {
	const top, last = 1 << 31, 1<<32 - 1
	for _, p := range []struct {
		a, b                        uint32
		add, sub, mul, and, or, xor uint32
	}{
		{0, 0, 0, 0, 0, 0, 0, 0},
		{6, 3, 9, 3, 18, 2, 7, 5},
		{3, 6, 9, last - 2, 18, 2, 7, 5},
		{0, 1, 1, last, 0, 0, 1, 1},
		{last, 1, 0, last - 1, last, 1, last, last - 1},
		{last, 2, 1, last - 2, last - 1, 2, last, last - 2},
		{last, last, last - 1, 0, 1, last, last, 0},
		{top, top, 0, 0, 0, top, top, 0},
		{top - 1, 1, top, top - 2, top - 1, 1, top - 1, top - 2},
		{top, 1, top + 1, top - 1, top, 0, top + 1, top + 1},
		{top - 1, top, last, last, top, 0, last, last},
		{1 << 16, 1 << 16, 1 << 17, 0, 0, 1 << 16, 1 << 16, 0},
		{65535, 65537, 131072, last - 1, last, 1, 131071, 131070},
	} {
		ops := []int{api.OpAdd, api.OpSub, api.OpMul, api.OpAnd, api.OpOr, api.OpXor}
		for i, want := range []uint32{p.add, p.sub, p.mul, p.and, p.or, p.xor} {
			if v, e := Two(ops[i], p.a, p.b); v != want || e != api.OK {
				t.Errorf("Two(%#x, %d, %d) = %d, %v; want %d", ops[i], p.a, p.b, v, e, want)
			}
		}
	}
}

// P3.2, the chapter's examples of divisions, those that have no result, and each pair of signs.
func TestDivisionExamples(t *testing.T) {
	const top, last = 1 << 31, 1<<32 - 1
	for _, p := range []struct {
		op         int
		a, b, want uint32
		e          api.Errno
	}{
		{api.OpDivS, 1<<32 - 7, 2, 1<<32 - 3, api.OK},
		{api.OpRemS, 1<<32 - 7, 2, last, api.OK},
		{api.OpDivU, 1<<32 - 7, 2, 1<<31 - 4, api.OK},
		{api.OpRemU, 1<<32 - 7, 2, 1, api.OK},
		{api.OpDivS, 7, 2, 3, api.OK},
		{api.OpRemS, 7, 2, 1, api.OK},
		{api.OpDivS, 7, 1<<32 - 2, 1<<32 - 3, api.OK},
		{api.OpRemS, 7, 1<<32 - 2, 1, api.OK},
		{api.OpDivS, 1<<32 - 7, 1<<32 - 2, 3, api.OK},
		{api.OpRemS, 1<<32 - 7, 1<<32 - 2, last, api.OK},
		{api.OpDivU, 7, 2, 3, api.OK},
		{api.OpRemU, 7, 4, 3, api.OK},
		{api.OpDivU, 7, 1<<32 - 2, 0, api.OK},
		{api.OpRemU, 7, 1<<32 - 2, 7, api.OK},
		{api.OpDivS, 0, last, 0, api.OK},
		{api.OpRemS, 0, last, 0, api.OK},
		{api.OpDivU, last, last, 1, api.OK},
		{api.OpRemU, last, last, 0, api.OK},
		{api.OpDivS, top, last, 0, api.ErrOver},
		{api.OpRemS, top, last, 0, api.OK},
		{api.OpDivU, top, last, 0, api.OK},
		{api.OpRemU, top, last, top, api.OK},
		{api.OpDivS, top + 1, last, top - 1, api.OK},
		{api.OpDivS, top - 1, last, top + 1, api.OK},
		{api.OpDivS, top, last - 1, 1 << 30, api.OK},
		{api.OpDivS, top, 1, top, api.OK},
		{api.OpRemS, top, 1, 0, api.OK},
		{api.OpDivS, top, top, 1, api.OK},
		{api.OpDivS, last, top, 0, api.OK},
		{api.OpRemS, last, top, last, api.OK},
		{api.OpDivU, top, 1, top, api.OK},
		{api.OpRemS, top, 3, 1<<32 - 2, api.OK},
		{api.OpRemU, top, 3, 2, api.OK},
	} {
		if v, e := Two(p.op, p.a, p.b); v != p.want || e != p.e {
			t.Errorf("Two(%#x, %d, %d) = %d, %v; want %d, %v", p.op, p.a, p.b, v, e, p.want, p.e)
		}
	}
}

// P3.2: a division by 0 has no result, whatever is divided.
func TestDivisionByNought(t *testing.T) {
	for _, op := range []int{api.OpDivS, api.OpDivU, api.OpRemS, api.OpRemU} {
		for _, a := range edgeWords() {
			if v, e := Two(op, a, 0); v != 0 || e != api.ErrNought {
				t.Errorf("Two(%#x, %d, 0) = %d, %v", op, a, v, e)
			}
		}
	}
}

// P3.2: moves and rotations, by b modulo 32.
func TestMoveExamples(t *testing.T) {
	const top, last = 1 << 31, 1<<32 - 1
	for _, p := range []struct {
		a, b                        uint32
		shl, shrU, shrS, rotl, rotr uint32
	}{
		{0, 5, 0, 0, 0, 0, 0},
		{1, 33, 2, 0, 0, 2, top},
		{3, 1, 6, 1, 1, 6, top + 1},
		{top + 1, 0, top + 1, top + 1, top + 1, top + 1, top + 1},
		{top + 1, 1, 2, 1 << 30, 3 << 30, 3, 3 << 30},
		{top + 1, 31, top, 1, last, 3 << 30, 3},
		{top + 1, 32, top + 1, top + 1, top + 1, top + 1, top + 1},
		{top + 1, 33, 2, 1 << 30, 3 << 30, 3, 3 << 30},
		{top + 1, last, top, 1, last, 3 << 30, 3},
		{top, 31, 0, 1, last, 1 << 30, 1},
		{top - 1, 31, top, 0, 0, 3<<30 - 1, last - 1},
		{last, 0, last, last, last, last, last},
		{last, 31, top, 1, last, last, last},
		{last, last, top, 1, last, last, last},
		{0x12345678, 8, 0x34567800, 0x123456, 0x123456, 0x34567812, 0x78123456},
		{0x92345678, 40, 0x34567800, 0x923456, 0xff923456, 0x34567892, 0x78923456},
	} {
		ops := []int{api.OpShl, api.OpShrU, api.OpShrS, api.OpRotl, api.OpRotr}
		for i, want := range []uint32{p.shl, p.shrU, p.shrS, p.rotl, p.rotr} {
			if v, e := Two(ops[i], p.a, p.b); v != want || e != api.OK {
				t.Errorf("Two(%#x, %#x, %d) = %#x, %v; want %#x", ops[i], p.a, p.b, v, e, want)
			}
		}
	}
}

// P3.2: each operation at each word, and at each pair of words, that lies at an edge.
func TestEveryOperation(t *testing.T) {
	words := edgeWords()
	for _, a := range words {
		for _, op := range ones() {
			if v, e := One(op, a); v != readOne(op, a) || e != api.OK {
				t.Fatalf("One(%#x, %d) = %d, %v; want %d", op, a, v, e, readOne(op, a))
			}
		}
		for _, b := range words {
			for _, op := range twos() {
				want, fault := readTwo(op, a, b)
				if v, e := Two(op, a, b); v != want || e != fault {
					t.Fatalf("Two(%#x, %d, %d) = %d, %v; want %d, %v", op, a, b, v, e, want, fault)
				}
			}
		}
	}
}

// P3.2: moves and rotations by each number up to 100, and by those from 2^32 - 100 on.
func TestEveryMove(t *testing.T) {
	for _, op := range []int{api.OpShl, api.OpShrU, api.OpShrS, api.OpRotl, api.OpRotr} {
		for _, a := range edgeWords() {
			for n := int64(-100); n <= 100; n++ {
				want, _ := readTwo(op, a, word(n))
				if v, e := Two(op, a, word(n)); v != want || e != api.OK {
					t.Fatalf("Two(%#x, %d, %d) = %d, %v; want %d", op, a, word(n), v, e, want)
				}
			}
		}
	}
}

// P3.3: a word, signed.
func TestSigned(t *testing.T) {
	for _, p := range []struct {
		a    uint32
		want int
	}{
		{0, 0}, {1, 1}, {5, 5},
		{1<<31 - 1, 1<<31 - 1}, {1 << 31, -1 << 31}, {1<<31 + 1, -1<<31 + 1},
		{1<<32 - 1, -1}, {1<<32 - 2, -2},
	} {
		if n := Signed(p.a); n != p.want {
			t.Errorf("Signed(%d) = %d, want %d", p.a, n, p.want)
		}
	}
	for _, a := range edgeWords() {
		if n := Signed(a); int64(n) != signed(a) {
			t.Errorf("Signed(%d) = %d, want %d", a, n, signed(a))
		}
	}
}

// P3.3, the chapter's examples and the words about the highest of the bits.
func TestWideExamples(t *testing.T) {
	for _, p := range []struct {
		a    uint32
		bits int
		want uint32
	}{
		{128, 8, 1<<32 - 128},
		{384, 8, 1<<32 - 128},
		{0, 8, 0},
		{127, 8, 127},
		{129, 8, 1<<32 - 127},
		{255, 8, 1<<32 - 1},
		{256, 8, 0},
		{1<<31 - 1, 8, 1<<32 - 1},
		{1 << 31, 8, 0},
		{1<<32 - 1, 8, 1<<32 - 1},
		{1<<32 - 129, 8, 127},
		{0, 16, 0},
		{128, 16, 128},
		{32767, 16, 32767},
		{32768, 16, 1<<32 - 32768},
		{32769, 16, 1<<32 - 32767},
		{65535, 16, 1<<32 - 1},
		{65536, 16, 0},
		{65536 + 32768, 16, 1<<32 - 32768},
		{1 << 31, 16, 0},
		{1<<32 - 32769, 16, 32767},
		{1<<32 - 1, 16, 1<<32 - 1},
	} {
		if v, e := Wide(p.a, p.bits); v != p.want || e != api.OK {
			t.Errorf("Wide(%d, %d) = %d, %v; want %d", p.a, p.bits, v, e, p.want)
		}
	}
}

// P3.3: all words of 17 bits, alone and with bits above them.
func TestWideEvery(t *testing.T) {
	wide := func(a uint32, unit int64) uint32 {
		n := int64(a) % unit
		if n >= unit/2 {
			n -= unit
		}
		return word(n)
	}
	for low := range uint32(1 << 17) {
		for _, a := range []uint32{low, low + 0x12340000, low + 0xfffe0000} {
			if v, e := Wide(a, 8); v != wide(a, 1<<8) || e != api.OK {
				t.Fatalf("Wide(%d, 8) = %d, %v", a, v, e)
			}
			if v, e := Wide(a, 16); v != wide(a, 1<<16) || e != api.OK {
				t.Fatalf("Wide(%d, 16) = %d, %v", a, v, e)
			}
		}
	}
}

// P3.3: any other number of bits is refused.
func TestWideWrongBits(t *testing.T) {
	wrong := []int{math.MinInt, math.MinInt32, 264, 272, 1<<32 + 8, 1<<32 + 16, math.MinInt + 8, math.MaxInt32, math.MaxInt}
	for bits := -100; bits <= 100; bits++ {
		if bits != 8 && bits != 16 {
			wrong = append(wrong, bits)
		}
	}
	for _, bits := range wrong {
		for _, a := range []uint32{0, 1, 128, 32768, 1 << 31, 1<<32 - 1} {
			if v, e := Wide(a, bits); v != 0 || e != api.ErrArg {
				t.Errorf("Wide(%d, %d) = %d, %v", a, bits, v, e)
			}
		}
	}
}

// P3.4: the dividend is the quotient times the divisor plus the remainder, which is nearer to 0 than the divisor.
func TestDividendFromQuotient(t *testing.T) {
	words := edgeWords()
	for _, a := range words {
		for _, b := range words {
			if b == 0 {
				continue
			}
			q, r := mustTwo(t, api.OpDivU, a, b), mustTwo(t, api.OpRemU, a, b)
			if int64(q)*int64(b)+int64(r) != int64(a) || r >= b {
				t.Fatalf("unsigned, %d by %d is %d, and %d is left", a, b, q, r)
			}
			if a == 1<<31 && b == 1<<32-1 {
				continue
			}
			x, y := signed(a), signed(b)
			s, l := signed(mustTwo(t, api.OpDivS, a, b)), signed(mustTwo(t, api.OpRemS, a, b))
			if s*y+l != x || max(l, -l) >= max(y, -y) || l != 0 && (l < 0) != (x < 0) {
				t.Fatalf("signed, %d by %d is %d, and %d is left", x, y, s, l)
			}
		}
	}
}

// P3.4: a shift up and back again keeps the lowest bits; a rotation and its reverse keep all.
func TestMovesAndBack(t *testing.T) {
	for _, a := range edgeWords() {
		for n := int64(-70); n <= 70; n++ {
			by := word(n)
			kept := int64(1) << (32 - by%32)
			up := mustTwo(t, api.OpShl, a, by)
			if v := mustTwo(t, api.OpShrU, up, by); int64(v) != int64(a)%kept {
				t.Fatalf("%d moved up by %d and back is %d", a, by, v)
			}
			low := int64(a) % kept
			if low >= kept/2 {
				low -= kept
			}
			if v := mustTwo(t, api.OpShrS, up, by); signed(v) != low {
				t.Fatalf("%d moved up by %d and back, signed, is %d, want %d", a, by, signed(v), low)
			}
			if v := mustTwo(t, api.OpRotr, mustTwo(t, api.OpRotl, a, by), by); v != a {
				t.Fatalf("%d rotated up by %d and back is %d", a, by, v)
			}
			if v := mustTwo(t, api.OpRotl, mustTwo(t, api.OpRotr, a, by), by); v != a {
				t.Fatalf("%d rotated down by %d and back is %d", a, by, v)
			}
		}
	}
}
