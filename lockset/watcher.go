package lockset

import (
	"cmp"
	"slices"

	"hindsight/api"
	"hindsight/check"
	"hindsight/event"
	"hindsight/lines"
)

// Watcher looks at one event at a time.
type Watcher struct {
	checker *check.Checker
	search  search
}

// New is a watcher ahead of the first event.
func New() *Watcher {
	return &Watcher{check.New(), newSearch()}
}

// Add takes the next event: the addresses that became suspect by it.
func (w *Watcher) Add(e api.Event) ([]api.Suspect, api.Errno) {
	if w == nil {
		return nil, api.ErrNil
	}
	reason, fault := w.checker.Add(e) // ErrNil, if New did not make the watcher
	if fault != api.OK {
		return nil, fault
	}
	if reason != 0 {
		return nil, api.ErrBad
	}
	return w.search.take(e), api.OK
}

// search finds the suspects of a run, event by event.
type search struct {
	taken   int
	holders map[int]*holder // by their numbers: the goroutines that took a lock, or touched a byte
	memory  lines.Memory[life]
}

func newSearch() search {
	return search{holders: map[int]*holder{}}
}

// take takes the next event of a run: the suspects that come by it, by rising addresses.
func (s *search) take(e api.Event) []api.Suspect {
	place := s.taken
	s.taken++
	switch e.Kind {
	case api.Read, api.Write:
		return s.access(e, place)
	case api.Alloc, api.Free:
		s.memory.Forget(e.Obj, e.Obj+(e.Arg-1))
	case api.Acquire, api.Release, api.RAcquire, api.RRelease:
		s.holder(e.G).take(e)
	}
	return nil
}

// access takes an access: the suspects that come by it.
func (s *search) access(e api.Event, place int) []api.Suspect {
	var suspects []api.Suspect
	first, last, writes, _ := event.Access(e)
	by := access{uint16(e.G), writes, s.holder(e.G).heldFor(writes)}
	for bytes, b := range s.memory.Touch(first, last) {
		before := *b
		*b = before.touched(by)
		if before.suspect() || !b.suspect() {
			continue
		}
		for addr := range bytes.All() {
			suspects = append(suspects, api.Suspect{Addr: addr, At: place, State: int(before.state)})
		}
	}
	slices.SortFunc(suspects, func(a, b api.Suspect) int { return cmp.Compare(a.Addr, b.Addr) })
	return suspects
}

// holder is what a goroutine holds.
func (s *search) holder(g int) *holder {
	if s.holders[g] == nil {
		s.holders[g] = newHolder()
	}
	return s.holders[g]
}
