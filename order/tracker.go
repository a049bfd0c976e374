package order

import (
	"hindsight/api"
	"hindsight/check"
	"hindsight/flow"
)

// Tracker works out clocks one event at a time.
type Tracker struct {
	checker *check.Checker
	flow    *flow.Flow
}

// New is a tracker ahead of the first event.
func New() *Tracker {
	return &Tracker{check.New(), flow.New()}
}

// Add takes the next event: its clock.
func (r *Tracker) Add(e api.Event) ([]api.Tick, api.Errno) {
	if r == nil {
		return nil, api.ErrNil
	}
	reason, fault := r.checker.Add(e) // ErrNil, if New did not make the tracker
	if fault != api.OK {
		return nil, fault
	}
	if reason != 0 {
		return nil, api.ErrBad
	}
	return r.flow.Take(e).Clock().Ticks(), api.OK
}
