package order

import (
	"hindsight/api"
	"hindsight/check"
)

// Tracker works out clocks one event at a time.
type Tracker struct {
	checker *check.Checker
	flow    *flow
}

// New is a tracker ahead of the first event.
func New() *Tracker {
	return &Tracker{check.New(), newFlow()}
}

// Add takes the next event: its clock.
func (r *Tracker) Add(e api.Event) ([]api.Tick, api.Errno) {
	if r == nil {
		return nil, api.ErrNil
	}
	reason, fault := r.checker.Add(e) // ErrNil, if New did not make the tracker
	if fault != api.OK {
		return nil, fault
	}
	if reason != 0 {
		return nil, api.ErrBad
	}
	return r.flow.take(e).clock().ticks(), api.OK
}

// view is what is known at an event. Its own time stands apart: each event has another one, while what is
// known of the others is mostly that of the event ahead of it, and shared with it.
type view struct {
	known *times // of the other goroutines; of the own one it may say less than is so
	time  int32  // how many events the own one has, this one included
	place int32
	g     uint16
}

// clock is all that is known.
func (v view) clock() *times {
	return join(v.known, single(v.g, v.time, v.place))
}

// learn adds what was left behind for the next event. Where that counts the last event, it counts all that
// was known there; then there is no need to join the two, which may be large and share little.
func (v *view) learn(given *times) {
	if v.time > 0 && given.get(v.g) == v.time {
		v.known = given
		return
	}
	v.known = join(v.known, given)
}

// flow is what the events of a run leave behind for later ones.
type flow struct {
	taken      int32
	goroutines map[uint16]*view // those that are alive: the view at the last event, or ahead of the first
	objects    map[name]object
}

func newFlow() *flow {
	return &flow{0, map[uint16]*view{0: {}}, map[name]object{}}
}

// take works out what is known at the next event of a run.
func (f *flow) take(e api.Event) view {
	own, met := f.goroutines[uint16(e.G)], f.met(e)
	own.learn(met.gives(e))
	own.time++
	own.place = f.taken
	f.taken++
	met.keeps(e, *own)
	switch o := met.(type) {
	case *begun: // its first event goes on from here
		f.goroutines[o.g] = &o.view
	case *ended: // what its last event knew is known here, and nobody asks for it again
		delete(f.goroutines, o.g)
	}
	return *own
}

// met is what an event meets beside its own goroutine.
func (f *flow) met(e api.Event) object {
	switch e.Kind {
	case api.Fork:
		return &begun{view{g: uint16(e.Arg)}}
	case api.Join:
		return &ended{f.goroutines[uint16(e.Arg)]}
	}
	n := name{sortOf(e.Kind), e.Obj}
	if n.sort == noSort {
		return nothing{}
	}
	if f.objects[n] == nil {
		f.objects[n] = newObject(n.sort)
	}
	return f.objects[n]
}
