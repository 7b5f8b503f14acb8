// Package leb is layer 1: numbers of 32 bits as one to five bytes (LEB128), with seven bits in each.
package leb

import (
	"math/bits"

	"gimlet/api"
)

const (
	width     = 7                  // bits in a part
	part      = 1<<width - 1       // the bits of a byte that belong to its part
	more      = 1 << width         // the bit that says that another byte follows
	lastShift = 32 / width * width // where the part of a fifth byte belongs
)

type number interface{ uint32 | int32 }

// PutU returns the fewest bytes of n, unsigned.
func PutU(n uint32) []byte { return put(uint64(n), SizeU(n)) }

// GetU reads an unsigned number at a place of b; it returns also the place after its bytes.
func GetU(b []byte, at int) (uint32, int, api.Fault) { return get[uint32](b, at) }

// SizeU returns how many bytes PutU(n) has.
func SizeU(n uint32) int { return max(1, (bits.Len32(n)+width-1)/width) }

// PutS returns the fewest bytes of n, signed.
func PutS(n int32) []byte { return put(uint64(n), SizeS(n)) }

// GetS reads a signed number at a place of b; it returns also the place after its bytes.
func GetS(b []byte, at int) (int32, int, api.Fault) { return get[int32](b, at) }

// SizeS returns how many bytes PutS(n) has.
func SizeS(n int32) int {
	// One bit more than the number needs must fit: the one that stands for all above it.
	return (bits.Len32(uint32(n^n>>31)) + 1 + width - 1) / width
}

// put takes 64 bits because the fifth part of a number less than 0 has copies of the sign above its 32 bits.
func put(u uint64, size int) []byte {
	out := make([]byte, 0, size)
	for {
		p := byte(u & part)
		u >>= width
		if len(out) == size-1 {
			return append(out, p)
		}
		out = append(out, p|more)
	}
}

func get[N number](b []byte, at int) (N, int, api.Fault) {
	if at < 0 || at > len(b) {
		return 0, 0, api.Fault{Err: api.ErrRange}
	}
	u, shift := uint32(0), 0
	for {
		if at == len(b) {
			return 0, 0, api.Fault{Err: api.ErrBytes, At: at}
		}
		c := b[at]
		u |= uint32(c&part) << shift
		if shift == lastShift && c != fifth(N(u)) {
			return 0, 0, api.Fault{Err: api.ErrBytes, At: at}
		}
		at++
		shift += width
		if c&more == 0 {
			return extend[N](u, shift), at, api.Fault{}
		}
	}
}

// fifth returns the only fifth byte that n can have: a byte whose upper bits are lost in n, or that says that another one follows, differs from it.
func fifth[N number](n N) byte { return byte(n>>lastShift) & part }

// extend needs no question for the kind of number: shifting back is arithmetic for signed numbers only, and brings back an unsigned one as it was.
func extend[N number](u uint32, used int) N {
	free := max(0, 32-used)
	return N(u<<free) >> free
}
