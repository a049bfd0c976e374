package deadlock

import (
	"slices"

	"hindsight/api"
)

// longest is how many holds a ring has at most.
const longest = 4

// search looks for rings. A lock is known by its place among those that stand in holds.
type search struct {
	locks []uint64 // rising
	pairs web
}

// newSearch is a search in a run in whose holds these locks stand.
func newSearch(run []api.Event, locks []uint64) *search {
	s := &search{locks: locks}
	s.pairs = newWeb(s.unlikeSteps(run), len(locks))
	return s
}

// unlikeSteps are the steps of a run, by their events. Of those that differ only in who took and when, the
// first ones of as many goroutines as a ring may have are enough: where a later one stands in a ring, one of
// them can stand, and the ring's events are less.
func (s *search) unlikeSteps(run []api.Event) []*step {
	var steps []*step
	whose := map[grip][]int{}
	for x := range takings(run) {
		if x.others() == 0 {
			continue
		}
		how := s.grip(x)
		if gs := whose[how]; len(gs) < longest && !slices.Contains(gs, x.g) {
			whose[how] = append(gs, x.g)
			steps = append(steps, &step{how, x.g, x.at})
		}
	}
	return steps
}

// grip is how a taking with holds took its lock.
func (s *search) grip(x taking) grip {
	how := grip{lock: s.place(x.lock), toRead: x.toRead}
	for k, lock := range x.held {
		bit := uint64(1) << s.place(lock)
		how.held |= bit
		if x.toWrite[k] {
			how.toWrite |= bit
		}
	}
	return how
}

// place is that of a lock that stands in holds.
func (s *search) place(lock uint64) int {
	place, _ := slices.BinarySearch(s.locks, lock)
	return place
}

// rings are those that are told, in their order.
func (s *search) rings() [][]api.Hold {
	var rings [][]api.Hold
	for length := 2; length <= longest; length++ {
		s.pairs.names(length, func(name []int) {
			if ring := s.least(name); len(ring) > 0 {
				rings = append(rings, s.told(name, ring))
			}
		})
	}
	return rings
}

// least is the ring with a name whose events are least; none, if no ring has it. That is told by the few steps,
// and often by what the pairs ask for alone, whoever does it. Then, place by place, the earliest step is taken
// behind which few steps close the ring.
func (s *search) least(name []int) []*step {
	pairs := s.pairs.around(name)
	ring := make([]*step, 0, longest)
	var closes func(tries []*step, behind func(*pair) []*step) bool
	closes = func(tries []*step, behind func(*pair) []*step) bool {
		k := len(ring)
		rest := others(name, k)
	next:
		for _, x := range tries {
			if x.bars(rest) || k > 0 && !ring[k-1].waits(x) {
				continue
			}
			for _, y := range ring {
				if x.gated(y) {
					continue next
				}
			}
			ring = append(ring, x)
			if k+1 < len(name) && closes(behind(pairs[k+1]), behind) || k+1 == len(name) && x.waits(ring[0]) {
				return true
			}
			ring = ring[:k]
		}
		return false
	}
	if !unlike(pairs) || !closes(pairs[0].grips, (*pair).anybodys) {
		return nil
	}
	ring = ring[:0]
	if !closes(pairs[0].few, (*pair).needed) {
		return nil
	}
	for k, p := range pairs {
		ring = ring[:k]
		closes(p.steps, (*pair).needed)
	}
	return ring
}

// others are the locks of a name but for one, as they are held by others: to read at least. Who holds one of
// them to write is turned away at once, and not only when nobody is found who could hold it, too.
func others(name []int, but int) hand {
	var h hand
	for k, lock := range name {
		if k != but {
			h.held |= 1 << lock
		}
	}
	return h
}

// told is a ring as it is answered.
func (s *search) told(name []int, ring []*step) []api.Hold {
	holds := make([]api.Hold, len(ring))
	for k, x := range ring {
		holds[k] = api.Hold{
			G:         x.g,
			Outer:     s.locks[name[k]],
			Inner:     s.locks[x.lock],
			OuterRead: x.reads(name[k]),
			InnerRead: x.toRead,
			At:        x.at,
		}
	}
	return holds
}
