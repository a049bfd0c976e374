package lockset

import "hindsight/api"

// holder is what a goroutine holds. (A checker's Held lists it anew each time: that takes long, where
// thousands of locks are held.)
type holder struct {
	all     *locks
	toWrite *locks
	times   map[uint64]int // how often it holds those that it holds to read
}

func newHolder() *holder {
	return &holder{times: map[uint64]int{}}
}

// heldFor are the locks that are held for an access.
func (h *holder) heldFor(writes bool) *locks {
	if writes {
		return h.toWrite
	}
	return h.all
}

// take takes one of its events that takes a lock or gives it back.
func (h *holder) take(e api.Event) {
	switch e.Kind {
	case api.Acquire:
		h.all, h.toWrite = h.all.with(e.Obj), h.toWrite.with(e.Obj)
	case api.Release:
		h.all, h.toWrite = h.all.without(e.Obj), h.toWrite.without(e.Obj)
	case api.RAcquire:
		h.times[e.Obj]++
		if h.times[e.Obj] == 1 {
			h.all = h.all.with(e.Obj)
		}
	case api.RRelease:
		h.times[e.Obj]--
		if h.times[e.Obj] == 0 {
			delete(h.times, e.Obj)
			h.all = h.all.without(e.Obj)
		}
	}
}
