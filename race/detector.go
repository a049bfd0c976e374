package race

import (
	"maps"
	"slices"

	"hindsight/api"
	"hindsight/check"
	"hindsight/event"
	"hindsight/flow"
	"hindsight/lines"
)

// Detector looks at one event at a time.
type Detector struct {
	checker *check.Checker
	search  search
}

// New is a detector ahead of the first event.
func New() *Detector {
	return &Detector{check.New(), newSearch()}
}

// Add takes the next event: the races of which it is the second.
func (d *Detector) Add(e api.Event) ([]api.Race, api.Errno) {
	if d == nil {
		return nil, api.ErrNil
	}
	reason, fault := d.checker.Add(e) // ErrNil, if New did not make the detector
	if fault != api.OK {
		return nil, fault
	}
	if reason != 0 {
		return nil, api.ErrBad
	}
	return d.search.take(e), api.OK
}

// Words tells for how many bytes the detector keeps something.
func (d *Detector) Words() int {
	if d == nil {
		return 0
	}
	return d.search.memory.Words()
}

// search finds the races of a run, event by event.
type search struct {
	flow   *flow.Flow
	memory lines.Memory[past]
}

func newSearch() search {
	return search{flow: flow.New()}
}

// take takes the next event of a run: the races of which it is the second, by rising first places.
func (s *search) take(e api.Event) []api.Race {
	v := s.flow.Take(e)
	switch e.Kind {
	case api.Read, api.Write:
		return races(s.firsts(e, v), v.Place)
	case api.Alloc, api.Free:
		s.memory.Forget(e.Obj, e.Obj+(e.Arg-1))
	}
	return nil
}

// firsts takes an access, and answers, of each goroutine that has one that races with it, the latest one's
// place.
func (s *search) firsts(e api.Event, v flow.View) map[uint16]int32 {
	var latest map[uint16]int32
	first, last, writes, _ := event.Access(e)
	for _, p := range s.memory.Touch(first, last) {
		latest = p.take(v, writes).latest(latest)
	}
	return latest
}

// races are those of a second place with the first ones that goroutines have.
func races(firsts map[uint16]int32, second int32) []api.Race {
	var list []api.Race
	for _, first := range slices.Sorted(maps.Values(firsts)) {
		list = append(list, api.Race{First: int(first), Second: int(second)})
	}
	return list
}
