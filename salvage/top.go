package salvage

import (
	"hindsight/api"
	"hindsight/frame"
)

const (
	lengthAt = 8 // where a frame tells its body's length
	topSumAt = 12
	topSize  = 16
	sumSize  = 4
)

// reach is the place behind the frame whose top stands at a place, by what the top says; and whether that
// top is right, and so many bytes stand there.
func reach(b []byte, at int) (end int, stands bool) {
	if len(b)-at < topSize {
		return 0, false
	}
	// A top alone is never a whole frame. Whatever else is wrong with it is told ahead of that.
	top := b[at : at+topSize]
	if _, _, fault := frame.Decode(top, 0); fault != api.ErrEnd {
		return 0, false
	}
	end = at + topSize + int(number(top[lengthAt:])) + sumSize
	return end, end <= len(b)
}

// number reads the four bytes with which b begins, the lowest first.
func number(b []byte) uint32 {
	return uint32(b[0]) | uint32(b[1])<<8 | uint32(b[2])<<16 | uint32(b[3])<<24
}

// spans are runs of places, rising, of which no two touch.
type spans []api.Span

// add puts a run behind the others, or makes the last one longer, if it goes on there.
func (s *spans) add(from, to int) {
	if last := len(*s) - 1; last >= 0 && (*s)[last].To == from {
		(*s)[last].To = to
		return
	}
	*s = append(*s, api.Span{From: from, To: to})
}
