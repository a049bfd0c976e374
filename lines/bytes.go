package lines

import (
	"iter"
	"math/bits"
)

// size is how many bytes a line has: as many as the bits of a number can tell apart.
const size = 64

// Bytes are some bytes of one line.
type Bytes struct {
	line  uint64
	which uint64 // bit by bit
}

// All goes over their addresses, which rise.
func (b Bytes) All() iter.Seq[uint64] {
	return func(yield func(uint64) bool) {
		for left := b.which; left != 0; left &= left - 1 {
			if !yield(b.line*size + uint64(bits.TrailingZeros64(left))) {
				return
			}
		}
	}
}

// between goes over the bytes from first to last, line by line.
func between(first, last uint64) iter.Seq[Bytes] {
	return func(yield func(Bytes) bool) {
		const whole = ^uint64(0)
		for line := first / size; line <= last/size; line++ {
			which := whole
			if line == first/size {
				which &= whole << (first % size)
			}
			if line == last/size {
				which &= whole >> (size - 1 - last%size)
			}
			if !yield(Bytes{line, which}) {
				return
			}
		}
	}
}
