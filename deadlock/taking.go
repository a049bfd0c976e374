package deadlock

import (
	"iter"
	"maps"
	"slices"

	"hindsight/api"
	"hindsight/check"
)

// taking is an event of a run that takes a lock.
type taking struct {
	g, at   int
	lock    uint64
	toRead  bool
	held    []uint64 // by its goroutine, ahead of it; rising
	toWrite []bool   // of each of these, whether to write
}

// takings goes over the takings of a run, in their order.
func takings(run []api.Event) iter.Seq[taking] {
	return func(yield func(taking) bool) {
		c := check.New()
		for place, e := range run {
			if e.Kind == api.Acquire || e.Kind == api.RAcquire {
				held, toWrite := c.Held(e.G)
				if !yield(taking{e.G, place, e.Obj, e.Kind == api.RAcquire, held, toWrite}) {
					return
				}
			}
			c.Add(e)
		}
	}
}

// others is how many locks were held beside the one that was taken: that may have been held already, to read.
func (x taking) others() int {
	if _, again := slices.BinarySearch(x.held, x.lock); again {
		return len(x.held) - 1
	}
	return len(x.held)
}

// holds goes over the holds of a taking, by rising Outers.
func (x taking) holds() iter.Seq[api.Hold] {
	return func(yield func(api.Hold) bool) {
		for k, outer := range x.held {
			if outer == x.lock {
				continue
			}
			if !yield(api.Hold{G: x.g, Outer: outer, Inner: x.lock, OuterRead: !x.toWrite[k], InnerRead: x.toRead, At: x.at}) {
				return
			}
		}
	}
}

// inHolds are the locks that stand in holds of a run, rising.
func inHolds(run []api.Event) ([]uint64, api.Errno) {
	seen := map[uint64]struct{}{}
	for x := range takings(run) {
		for h := range x.holds() {
			seen[h.Outer], seen[h.Inner] = struct{}{}, struct{}{}
		}
		if len(seen) > api.MaxHeld {
			return nil, api.ErrLarge
		}
	}
	return rising(seen), api.OK
}

// taken are the locks that a run takes, rising.
func taken(run []api.Event) []uint64 {
	seen := map[uint64]struct{}{}
	for _, e := range run {
		if e.Kind == api.Acquire || e.Kind == api.RAcquire {
			seen[e.Obj] = struct{}{}
		}
	}
	return rising(seen)
}

// rising are the locks of a set, rising.
func rising(set map[uint64]struct{}) []uint64 {
	return slices.Sorted(maps.Keys(set))
}
