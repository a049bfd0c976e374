package race

import (
	"maps"

	"hindsight/flow"
)

// touch is an access: its place in the run, and its goroutine's time at it.
type touch struct{ place, time int32 }

// history is what goroutines did with some bytes: of each its last read and its last write. No others are
// asked for: if the last one happens before an access, so do all ahead of it.
type history struct{ reads, writes map[uint16]touch }

// cell is some bytes of a line that were touched by the same accesses, and their history.
type cell struct {
	bytes uint64 // bit by bit: which of the line's bytes
	all   history

	// Who knows the last write of all knows what that knew. So such an access is held against the rest alone:
	// what raced with that write, and the reads behind it. (Thousands of goroutines may have touched the bytes,
	// each with the lock that guards them.)
	writer uint16 // whose write it is, if there was one
	rest   history
}

// cut leaves a cell these of its bytes; a cell with the others, of the same history, is answered.
func (c *cell) cut(bytes uint64) *cell {
	other := &cell{c.bytes &^ bytes, c.all.clone(), c.writer, c.rest.clone()}
	c.bytes = bytes
	return other
}

// take takes an access that touches just these bytes, and answers those that race with it.
func (c *cell) take(v flow.View, writes bool) history {
	racing := c.against(v).racing(v, writes)
	x := touch{v.Place, v.Time}
	if writes {
		c.all.writes = with(c.all.writes, v.G, x)
		c.writer, c.rest = v.G, racing
		return racing
	}
	c.all.reads = with(c.all.reads, v.G, x)
	if c.written() {
		c.rest.reads = with(c.rest.reads, v.G, x)
	}
	return racing
}

func (c *cell) written() bool {
	return len(c.all.writes) > 0
}

// against is what an access is to be held against.
func (c *cell) against(v flow.View) history {
	if c.written() && v.Knows(c.writer, c.all.writes[c.writer].time) {
		return c.rest
	}
	return c.all
}

// racing are those of a history that race with an access on the same bytes.
func (h history) racing(v flow.View, writes bool) history {
	found := history{writes: unknown(h.writes, v)}
	if writes {
		found.reads = unknown(h.reads, v)
	}
	return found
}

// latest adds to the places of goroutines those of a history, where they are later.
func (h history) latest(places map[uint16]int32) map[uint16]int32 {
	for _, list := range []map[uint16]touch{h.reads, h.writes} {
		for g, x := range list {
			if places == nil {
				places = map[uint16]int32{}
			}
			places[g] = max(places[g], x.place)
		}
	}
	return places
}

func (h history) clone() history {
	return history{maps.Clone(h.reads), maps.Clone(h.writes)}
}

// unknown are those of some accesses that don't happen before an event; nil, if there are none.
func unknown(of map[uint16]touch, v flow.View) map[uint16]touch {
	var list map[uint16]touch
	for g, x := range of {
		if !v.Knows(g, x.time) {
			list = with(list, g, x)
		}
	}
	return list
}

// with puts a goroutine's access among others; there is no map while there are none.
func with(list map[uint16]touch, g uint16, x touch) map[uint16]touch {
	if list == nil {
		list = map[uint16]touch{}
	}
	list[g] = x
	return list
}
