package race

import (
	"maps"

	"hindsight/flow"
)

// touch is an access: its place in the run, and its goroutine's time at it.
type touch struct{ place, time int32 }

// history is what goroutines did with some bytes: of each its last read and its last write. No others are
// asked for: if the last one happens before an access, so do all ahead of it.
type history struct{ reads, writes map[uint16]touch }

// past is what is kept of bytes that were touched by the same accesses.
type past struct {
	all history

	// Who knows the last write of all knows what that knew. So such an access is held against the rest alone:
	// what raced with that write, and the reads behind it. (Thousands of goroutines may have touched the bytes,
	// each with the lock that guards them.)
	writer uint16 // whose write it is, if there was one
	rest   history
}

// Clone is the past of bytes that are touched apart from the others from now on.
func (p past) Clone() past {
	return past{p.all.clone(), p.writer, p.rest.clone()}
}

// take takes an access that touches just these bytes, and answers those that race with it.
func (p *past) take(v flow.View, writes bool) history {
	racing := p.against(v).racing(v, writes)
	x := touch{v.Place, v.Time}
	if writes {
		p.all.writes = with(p.all.writes, v.G, x)
		p.writer, p.rest = v.G, racing
		return racing
	}
	p.all.reads = with(p.all.reads, v.G, x)
	if p.written() {
		p.rest.reads = with(p.rest.reads, v.G, x)
	}
	return racing
}

func (p *past) written() bool {
	return len(p.all.writes) > 0
}

// against is what an access is to be held against.
func (p *past) against(v flow.View) history {
	if p.written() && v.Knows(p.writer, p.all.writes[p.writer].time) {
		return p.rest
	}
	return p.all
}

// racing are those of a history that race with an access on the same bytes.
func (h history) racing(v flow.View, writes bool) history {
	found := history{writes: unknown(h.writes, v)}
	if writes {
		found.reads = unknown(h.reads, v)
	}
	return found
}

// latest adds to the places of goroutines those of a history, where they are later.
func (h history) latest(places map[uint16]int32) map[uint16]int32 {
	for _, list := range []map[uint16]touch{h.reads, h.writes} {
		for g, x := range list {
			if places == nil {
				places = map[uint16]int32{}
			}
			places[g] = max(places[g], x.place)
		}
	}
	return places
}

func (h history) clone() history {
	return history{maps.Clone(h.reads), maps.Clone(h.writes)}
}

// unknown are those of some accesses that don't happen before an event; nil, if there are none.
func unknown(of map[uint16]touch, v flow.View) map[uint16]touch {
	var list map[uint16]touch
	for g, x := range of {
		if !v.Knows(g, x.time) {
			list = with(list, g, x)
		}
	}
	return list
}

// with puts a goroutine's access among others; there is no map while there are none.
func with(list map[uint16]touch, g uint16, x touch) map[uint16]touch {
	if list == nil {
		list = map[uint16]touch{}
	}
	list[g] = x
	return list
}
