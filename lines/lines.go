// Package lines keeps something of each byte of memory that was touched, for the layers 19 and 20. An access
// touches up to 64 bytes, so they are not kept one by one: those of a line that were touched alike are a
// cell, and an access meets two lines at most, mostly with few cells in them.
package lines

import (
	"iter"
	"math/bits"
	"slices"
)

// Kept is what is kept of some bytes. Where a part of them is touched alone, the others get a clone.
type Kept[T any] interface{ Clone() T }

// cell is some bytes of a line, and what is kept of each of them.
type cell[T any] struct {
	which uint64 // bit by bit: which of the line's bytes
	kept  T
}

// Memory is what is kept of the bytes that were touched, by their addresses; at first nothing is.
type Memory[T Kept[T]] struct {
	lines map[uint64][]cell[T] // by their numbers: the first 64 bytes are the line 0; none is without cells
	words int                  // how many bytes the cells have
}

// Words tells of how many bytes something is kept.
func (m *Memory[T]) Words() int {
	return m.words
}

// At is what is kept of a byte; the zero value, if nothing is.
func (m *Memory[T]) At(address uint64) T {
	for _, c := range m.lines[address/size] {
		if c.which>>(address%size)&1 == 1 {
			return c.kept
		}
	}
	var nothing T
	return nothing
}

// Touch goes over what is kept of the bytes from first to last, for its user to change: each time with the
// bytes that have it in common. It is the zero value of those of which nothing was kept.
func (m *Memory[T]) Touch(first, last uint64) iter.Seq2[Bytes, *T] {
	return func(yield func(Bytes, *T) bool) {
		for b := range between(first, last) {
			cells := m.parted(b)
			for k, c := range cells {
				if c.which&b.which != 0 && !yield(Bytes{b.line, c.which}, &cells[k].kept) {
					return
				}
			}
		}
	}
}

// parted are a line's cells, each of which has only such bytes as are asked for, or none of them: one that
// has others, too, is cut in two, and bytes that are in none get one of their own.
func (m *Memory[T]) parted(b Bytes) []cell[T] {
	cells, missing := m.lines[b.line], b.which
	for k, c := range cells {
		inside := c.which & b.which
		missing &^= inside
		if inside != 0 && inside != c.which {
			cells[k].which = inside
			cells = append(cells, cell[T]{c.which &^ inside, c.kept.Clone()})
		}
	}
	if missing != 0 {
		cells = append(cells, cell[T]{which: missing})
		m.words += bits.OnesCount64(missing)
	}
	if m.lines == nil {
		m.lines = map[uint64][]cell[T]{}
	}
	m.lines[b.line] = cells
	return cells
}

// Forget deletes what is kept of the bytes from first to last.
func (m *Memory[T]) Forget(first, last uint64) {
	for b := range between(first, last) {
		cells, is := m.lines[b.line]
		if !is {
			continue
		}
		for k, c := range cells {
			m.words -= bits.OnesCount64(c.which & b.which)
			cells[k].which &^= b.which
		}
		cells = slices.DeleteFunc(cells, func(c cell[T]) bool { return c.which == 0 })
		if len(cells) == 0 {
			delete(m.lines, b.line)
		} else {
			m.lines[b.line] = cells
		}
	}
}
