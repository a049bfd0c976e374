package slice

import (
	"hindsight/api"
	"hindsight/event"
	"hindsight/race"
)

// isRace tells whether two places of a run are a race. An access orders nothing but its own goroutine's events,
// so the two race among all others just if they do as the only ones; and of two, a detector tells each race.
func isRace(run []api.Event, r api.Race) bool {
	if r.First < 0 || r.First >= r.Second || r.Second >= len(run) {
		return false
	}
	if !event.Clash(run[r.First], run[r.Second]) {
		return false
	}
	var races []api.Race
	d := race.New()
	for place, e := range run[:r.Second+1] {
		if place == r.First || place == r.Second || !isAccess(e) {
			races, _ = d.Add(e)
		}
	}
	return len(races) > 0
}

func isAccess(e api.Event) bool {
	_, _, _, is := event.Access(e)
	return is
}
