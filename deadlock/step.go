package deadlock

import "math/bits"

// hand is what a goroutine holds: all locks, and those of them to write. A lock is a bit, by its place among
// the locks that stand in holds.
type hand struct{ held, toWrite uint64 }

// reads tells whether a lock that is held is held to read.
func (h hand) reads(lock int) bool {
	return h.toWrite>>lock&1 == 0
}

// bars tells whether two hands can't be there at the same time: a lock is in both, not in both to read.
func (h hand) bars(other hand) bool {
	return h.held&other.toWrite|h.toWrite&other.held != 0
}

// within tells whether all that a hand holds the other one holds, too, and to write what it holds to write.
func (h hand) within(other hand) bool {
	return h.held&^other.held|h.toWrite&^other.toWrite == 0
}

// grip is all that a ring asks of a taking, but for the goroutine and the event.
type grip struct {
	hand   // ahead of it
	lock   int
	toRead bool
}

// weight is less than that of another grip of the lock, if what is held is within what that one holds, and if
// this one takes to write where that one does.
func (p grip) weight() int {
	w := bits.OnesCount64(p.held) + bits.OnesCount64(p.toWrite)
	if p.toRead {
		w++
	}
	return w
}

// replaces tells whether a grip can stand wherever another one of the same lock can, with a lock that both hold.
func (p grip) replaces(other grip, outer int) bool {
	return p.within(other.hand) && p.reads(outer) == other.reads(outer) && (!p.toRead || other.toRead)
}

// step is a taking that may stand in a ring.
type step struct {
	grip
	g, at int
}

// holds tells whether a step holds a lock, and that is not the one that it takes.
func (x *step) holds(lock int) bool {
	return lock != x.lock && x.held>>lock&1 == 1
}

// gated tells whether two steps never stand where they are at the same time: there is a gate between them, or
// they are of one goroutine.
func (x *step) gated(y *step) bool {
	return x.g == y.g || x.bars(y.hand)
}

// waits tells whether a step waits for one that holds the lock that it takes.
func (x *step) waits(holder *step) bool {
	return !x.toRead || !holder.reads(x.lock)
}

// leads tells whether one that holds the lock that x takes may come behind x in a ring.
func (x *step) leads(holder *step) bool {
	return x.waits(holder) && !x.gated(holder)
}
