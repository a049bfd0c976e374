// Package wire: numbers as bytes, and a cursor over bytes: chapter 1.
package wire

import (
	"math/bits"

	"hindsight/api"
)

const (
	groupBits = 7                                // of a number, in each of its bytes
	more      = 1 << groupBits                   // added to a byte behind which another one follows
	maxGroups = (64 + groupBits - 1) / groupBits // of the greatest number
	topGroup  = 1<<(64-(maxGroups-1)*groupBits) - 1
)

// Uvarint writes a number.
func Uvarint(x uint64) []byte {
	n := Size(x)
	out := make([]byte, n)
	for k := range n {
		out[k] = byte(x>>(k*groupBits)) | more
	}
	out[n-1] -= more
	return out
}

// ReadUvarint reads one off a place: the number, the place behind it.
func ReadUvarint(b []byte, at int) (uint64, int, api.Errno) {
	if at < 0 || at > len(b) {
		return 0, 0, api.ErrArg
	}
	var x uint64
	for k := range maxGroups {
		if at+k >= len(b) {
			return 0, 0, api.ErrEnd
		}
		c := b[at+k]
		if k == maxGroups-1 && c > topGroup {
			break
		}
		x |= uint64(c%more) << (k * groupBits)
		if c >= more {
			continue
		}
		if k > 0 && c == 0 {
			return 0, 0, api.ErrLong
		}
		return x, at + k + 1, api.OK
	}
	return 0, 0, api.ErrOver
}

// Zig turns a signed number into one without a sign.
func Zig(x int64) uint64 {
	// x >> 63 is all ones below 0: it turns the bits of 2x into those of -2x - 1.
	return uint64(x<<1) ^ uint64(x>>63)
}

// Zag turns it back.
func Zag(u uint64) int64 {
	return int64(u>>1) ^ -int64(u&1)
}

// Varint writes a signed number.
func Varint(x int64) []byte {
	return Uvarint(Zig(x))
}

// ReadVarint reads one off a place.
func ReadVarint(b []byte, at int) (int64, int, api.Errno) {
	// With an error u is 0, and so is its Zag.
	u, next, fault := ReadUvarint(b, at)
	return Zag(u), next, fault
}

// Diff is the way from one number to another, modulo 2^64, short for small ways both ways.
func Diff(from, to uint64) uint64 {
	return Zig(int64(to - from))
}

// Step goes that way.
func Step(from, d uint64) uint64 {
	return from + uint64(Zag(d))
}

// Size tells how many bytes Uvarint writes.
func Size(x uint64) int {
	// 0 has a group as well, as 1 has.
	return (bits.Len64(x|1) + groupBits - 1) / groupBits
}
