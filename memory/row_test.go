package memory

import (
	"bytes"
	"math"
	"slices"
	"testing"

	"gimlet/api"
)

const (
	pageBytes = 65536
	whole     = int64(1) << 32
)

// operation is a row of the chapter's table: for how many bytes a load or store is; of a load whether the highest bit is extended.
type operation struct {
	op, bytes int
	signed    bool
}

func loads() []operation {
	return []operation{
		{api.OpLoad, 4, false},
		{api.OpLoad16S, 2, true},
		{api.OpLoad16U, 2, false},
		{api.OpLoad8S, 1, true},
		{api.OpLoad8U, 1, false},
	}
}

func stores() []operation {
	return []operation{{api.OpStore, 4, false}, {api.OpStore16, 2, false}, {api.OpStore8, 1, false}}
}

func numbers(l []operation) []int {
	var out []int
	for _, o := range l {
		out = append(out, o.op)
	}
	return out
}

// strangers are numbers that are neither a load nor a store: other operations, those that are none, and those that would be a load or store if they were cut to fewer bits.
func strangers() []int {
	known := append(numbers(loads()), numbers(stores())...)
	out := []int{math.MinInt, math.MinInt32, math.MaxInt32, math.MaxInt}
	for op := -300; op <= 600; op++ {
		if !slices.Contains(known, op) {
			out = append(out, op)
		}
	}
	for _, op := range known {
		out = append(out, op+1<<16, op+1<<32, op-1<<32, op+math.MinInt)
	}
	return out
}

// row is a second reading of the chapter: a memory as one row of bytes.
type row struct {
	b    []byte
	most int
}

func newRow(l api.Limits) *row {
	r := &row{b: make([]byte, int(l.Min)*pageBytes), most: 65536}
	if l.Capped {
		r.most = int(l.Max)
	}
	return r
}

func (r *row) pages() int { return len(r.b) / pageBytes }

func (r *row) grow(n uint32) uint32 {
	had := r.pages()
	if had+int(n) > r.most {
		return math.MaxUint32
	}
	r.b = append(r.b, make([]byte, int(n)*pageBytes)...)
	return uint32(had)
}

// cut returns the bytes from an address on, which is any number; nil if they do not exist.
func (r *row) cut(at, n int64) []byte {
	if at+n > int64(len(r.b)) {
		return nil
	}
	return r.b[at : at+n : at+n]
}

func (r *row) load(o operation, at, offset uint32) (uint32, api.Errno) {
	b := r.cut(int64(at)+int64(offset), int64(o.bytes))
	if b == nil {
		return 0, api.ErrBounds
	}
	v, turn := int64(0), int64(1)
	for _, c := range b {
		v, turn = v+int64(c)*turn, turn*256
	}
	if o.signed && v >= turn/2 {
		v += whole - turn
	}
	return uint32(v), api.OK
}

func (r *row) store(o operation, at, offset, v uint32) api.Errno {
	b := r.cut(int64(at)+int64(offset), int64(o.bytes))
	if b == nil {
		return api.ErrBounds
	}
	left := int64(v)
	for k := range b {
		b[k], left = byte(left%256), left/256
	}
	return api.OK
}

func (r *row) read(at, n uint32) ([]byte, api.Errno) {
	b := r.cut(int64(at), int64(n))
	if b == nil {
		return nil, api.ErrBounds
	}
	if n > 1<<20 {
		return nil, api.ErrArg
	}
	return b, api.OK
}

func (r *row) write(at uint32, l []byte) api.Errno {
	b := r.cut(int64(at), int64(len(l)))
	if b == nil {
		return api.ErrBounds
	}
	for k := range b {
		b[k] = l[k]
	}
	return api.OK
}

// dice are numbers that look like chance, and are always the same ones.
type dice uint64

func (d *dice) below(n int) int {
	*d = *d*6364136223846793005 + 1442695040888963407
	return int(uint64(*d) >> 24 % uint64(n))
}

func (d *dice) bytes(n int) []byte {
	b := make([]byte, n)
	for k := range b {
		b[k] = byte(d.below(256))
	}
	return b
}

// must returns a memory with these limits.
func must(t *testing.T, l api.Limits) *Memory {
	t.Helper()
	m, e := New(l)
	if m == nil || e != api.OK {
		t.Fatalf("New(%+v) = %v, %v", l, m, e)
	}
	return m
}

// filled returns a memory with these limits, and a row that has the same bytes; none of them is 0.
func filled(t *testing.T, l api.Limits) (*Memory, *row) {
	t.Helper()
	m, r := must(t, l), newRow(l)
	for k := range r.b {
		r.b[k] = byte(k%251 + 1)
	}
	if e := m.Write(0, r.b); e != api.OK {
		t.Fatalf("New(%+v): Write of all its bytes: %v", l, e)
	}
	return m, r
}

// sameAs holds a memory's pages, and all its bytes, against those of a row.
func sameAs(t *testing.T, what string, m *Memory, r *row) {
	t.Helper()
	if m.Pages() != uint32(r.pages()) {
		t.Fatalf("%s: %d pages, want %d", what, m.Pages(), r.pages())
	}
	const step = 1 << 20
	for at := 0; at < len(r.b); at += step {
		want := r.b[at:min(at+step, len(r.b))]
		b, e := m.Read(uint32(at), uint32(len(want)))
		if e != api.OK || !bytes.Equal(b, want) {
			t.Fatalf("%s: %d bytes from %d on are not as they should be: %v", what, len(want), at, e)
		}
	}
}

// reads holds the bytes of a memory from an address on against those that are wanted.
func reads(t *testing.T, what string, m *Memory, at uint32, want ...byte) {
	t.Helper()
	if b, e := m.Read(at, uint32(len(want))); e != api.OK || !bytes.Equal(b, want) {
		t.Errorf("%s: from %d on %v, %v; want %v", what, at, b, e, want)
	}
}

// loadsAs holds what a load reads against what is wanted.
func loadsAs(t *testing.T, m *Memory, op int, at, offset, want uint32, fault api.Errno) {
	t.Helper()
	if v, e := m.Load(op, at, offset); v != want || e != fault {
		t.Errorf("%d pages: Load(%#x, %d, %d) = %d, %v; want %d, %v", m.Pages(), op, at, offset, v, e, want, fault)
	}
}

// storesAs holds whether a store is done against what is wanted.
func storesAs(t *testing.T, m *Memory, op int, at, offset, v uint32, fault api.Errno) {
	t.Helper()
	if e := m.Store(op, at, offset, v); e != fault {
		t.Errorf("%d pages: Store(%#x, %d, %d, %d) = %v; want %v", m.Pages(), op, at, offset, v, e, fault)
	}
}

// grows holds what Grow returns, and how many pages there are then, against what is wanted.
func grows(t *testing.T, m *Memory, n, want, pages uint32) {
	t.Helper()
	if got, e := m.Grow(n); got != want || e != api.OK || m.Pages() != pages {
		t.Errorf("Grow(%d) = %d, %v, %d pages then; want %d, %d pages", n, got, e, m.Pages(), want, pages)
	}
}
