package watch

import (
	"slices"

	"hindsight/api"
	"hindsight/check"
	"hindsight/race"
)

// nowhere is the place of the first bad event, if there is none.
const nowhere = -1

// sight is what is seen of events that come one after the other.
type sight struct {
	verdict  api.Verdict // of those so far
	checker  *check.Checker
	detector *race.Detector
}

func newSight() *sight {
	return &sight{api.Verdict{Bad: nowhere}, check.New(), race.New()}
}

// takeAll takes the next events, which are good ones and not too many.
func (s *sight) takeAll(events []api.Event) {
	for _, e := range events {
		if s.verdict.Bad == nowhere {
			s.take(e)
		}
		s.verdict.Events++
	}
}

// take takes the next event of a run. (The checker tells why it can't come; the detector, which has one of
// its own, does not.)
func (s *sight) take(e api.Event) {
	if reason, _ := s.checker.Add(e); reason != 0 {
		s.verdict = api.Verdict{Events: s.verdict.Events, Bad: s.verdict.Events, Reason: reason}
		s.end()
		return
	}
	races, _ := s.detector.Add(e)
	s.verdict.Races = append(s.verdict.Races, races...)
}

// end forgets what only further events of a run would need.
func (s *sight) end() {
	s.checker, s.detector = nil, nil
}

// racesBehind are the races behind so many; none, if the events are no run.
func (s *sight) racesBehind(told int) []api.Race {
	if s.verdict.Bad != nowhere {
		return nil
	}
	return slices.Clone(s.verdict.Races[told:])
}
