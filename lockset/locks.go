package lockset

import "math/bits"

// locks is a set of locks: a tree over the bits of their numbers, whose locks never change. So sets share
// what they have in common: thousands of locks may be held, other ones at each access, and guard as many
// bytes. nil: none.
type locks struct {
	least     uint64 // the least of them
	free      uint8  // in how many of the lowest bits they differ; 0: it is one lock alone
	low, high *locks // those without the highest of these bits, and those with it

	// What was held against this set the last time, and what the two have in common. Mostly the same comes
	// again: bytes with the same guards, one behind the other, and parts of sets in which nothing changed.
	asked, answer *locks
}

// spans tells whether a lock differs from those of a set in no other bits than they do from each other.
func (s *locks) spans(lock uint64) bool {
	return (lock^s.least)>>s.free == 0
}

// isHigh tells whether a lock would stand in the high half of a set of several, if it stood in one.
func (s *locks) isHigh(lock uint64) bool {
	return lock>>(s.free-1)&1 == 1
}

// side is that half of a set of several in which a lock would stand, if it stood in one.
func (s *locks) side(lock uint64) *locks {
	if s.isHigh(lock) {
		return s.high
	}
	return s.low
}

// over is the set of the locks of two, of which neither spans a lock of the other.
func over(a, b *locks) *locks {
	switch {
	case a == nil:
		return b
	case b == nil:
		return a
	case a.least > b.least:
		a, b = b, a
	}
	return &locks{least: a.least, free: uint8(bits.Len64(a.least ^ b.least)), low: a, high: b}
}

// with is a set and a lock that it does not have.
func (s *locks) with(lock uint64) *locks {
	switch {
	case s == nil || !s.spans(lock):
		return over(s, &locks{least: lock})
	case s.isHigh(lock):
		return over(s.low, s.high.with(lock))
	}
	return over(s.low.with(lock), s.high)
}

// without is a set but for one of its locks.
func (s *locks) without(lock uint64) *locks {
	switch {
	case s.free == 0:
		return nil
	case s.isHigh(lock):
		return over(s.low, s.high.without(lock))
	}
	return over(s.low.without(lock), s.high)
}

// common are those locks of a that b has, too.
func common(a, b *locks) *locks {
	switch {
	case a == b:
		return a
	case a == nil || b == nil:
		return nil
	case a.free > b.free:
		return common(a.side(b.least), b)
	case a.free < b.free:
		return common(a, b.side(a.least))
	case !a.spans(b.least):
		return nil
	case a.free == 0:
		return a
	case b.asked != a:
		b.asked, b.answer = a, halves(a, b)
	}
	return b.answer
}

// halves are those locks of a that b has, too, where both differ in the same bits. If that is all of a, it is
// answered itself, so that what is shared stays shared.
func halves(a, b *locks) *locks {
	low, high := common(a.low, b.low), common(a.high, b.high)
	if low == a.low && high == a.high {
		return a
	}
	return over(low, high)
}

// list are the locks of a set, rising.
func (s *locks) list() []uint64 {
	switch {
	case s == nil:
		return nil
	case s.free == 0:
		return []uint64{s.least}
	}
	return append(s.low.list(), s.high.list()...)
}
