package race

import (
	"iter"
	"math/bits"
	"slices"

	"hindsight/flow"
)

// lineSize is how many bytes a line has: as many as the bits of a number can tell apart.
const lineSize = 64

// memory is what is kept of the bytes that were touched. An access touches up to 64 of them, so they are
// not kept one by one: those of a line that were touched alike are a cell, and an access meets two lines at
// most, mostly with few cells in them.
type memory struct {
	lines map[uint64][]*cell // by their numbers: the first 64 bytes are the line 0; none is without cells
	words int                // how many bytes the cells have
}

func newMemory() memory {
	return memory{lines: map[uint64][]*cell{}}
}

// pieces goes over the lines of the bytes from first to last: their numbers, and which bytes of each these are.
func pieces(first, last uint64) iter.Seq2[uint64, uint64] {
	return func(yield func(line, bytes uint64) bool) {
		const whole = ^uint64(0)
		for line := first / lineSize; line <= last/lineSize; line++ {
			bytes := whole
			if line == first/lineSize {
				bytes &= whole << (first % lineSize)
			}
			if line == last/lineSize {
				bytes &= whole >> (lineSize - 1 - last%lineSize)
			}
			if !yield(line, bytes) {
				return
			}
		}
	}
}

// access takes an access on the bytes from first to last, and answers, of each goroutine that has one that
// races with it, the latest one's place.
func (m *memory) access(first, last uint64, writes bool, v flow.View) map[uint16]int32 {
	var latest map[uint16]int32
	for line, bytes := range pieces(first, last) {
		for _, c := range m.cells(line, bytes) {
			latest = c.take(v, writes).latest(latest)
		}
	}
	return latest
}

// cells are those that have just these bytes of a line: one that has others, too, is cut in two, and bytes
// that are in none get one of their own.
func (m *memory) cells(line, bytes uint64) []*cell {
	var list []*cell
	for _, c := range m.lines[line] {
		inside := c.bytes & bytes
		if inside == 0 {
			continue
		}
		if inside != c.bytes {
			m.lines[line] = append(m.lines[line], c.cut(inside))
		}
		list = append(list, c)
		bytes &^= inside
	}
	if bytes != 0 {
		c := &cell{bytes: bytes}
		m.lines[line] = append(m.lines[line], c)
		m.words += bits.OnesCount64(bytes)
		list = append(list, c)
	}
	return list
}

// forget deletes all that is kept of the bytes from first to last.
func (m *memory) forget(first, last uint64) {
	for line, bytes := range pieces(first, last) {
		cells, is := m.lines[line]
		if !is {
			continue
		}
		cells = slices.DeleteFunc(cells, func(c *cell) bool {
			m.words -= bits.OnesCount64(c.bytes & bytes)
			c.bytes &^= bytes
			return c.bytes == 0
		})
		if len(cells) == 0 {
			delete(m.lines, line)
		} else {
			m.lines[line] = cells
		}
	}
}
