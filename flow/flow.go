// Package flow works out, event by event, what is known at the events of a run: what happens before what,
// as layer 18 answers it, and as layer 19 asks it while the events come.
package flow

import "hindsight/api"

// View is what is known at an event. Its own time stands apart: each event has another one, while what is
// known of the others is mostly that of the event ahead of it, and shared with it.
type View struct {
	Known *Times // of the other goroutines; of the own one it may say less than is so
	Time  int32  // how many events the own one has, this one included
	Place int32
	G     uint16
}

// Clock is all that is known.
func (v View) Clock() *Times {
	return Join(v.Known, single(v.G, v.Time, v.Place))
}

// Knows tells whether an event, told by its goroutine and its time there, is this one or happens before it.
func (v View) Knows(g uint16, time int32) bool {
	if g == v.G {
		return time <= v.Time
	}
	return time <= v.Known.Get(g)
}

// learn adds what was left behind for the next event. Where that counts the last event, it counts all that
// was known there; then there is no need to join the two, which may be large and share little.
func (v *View) learn(given *Times) {
	if v.Time > 0 && given.Get(v.G) == v.Time {
		v.Known = given
		return
	}
	v.Known = Join(v.Known, given)
}

// Flow is what the events of a run leave behind for later ones.
type Flow struct {
	taken      int32
	goroutines map[uint16]*View // those that are alive: the view at the last event, or ahead of the first
	objects    map[name]object
}

// New is a flow ahead of the first event.
func New() *Flow {
	return &Flow{0, map[uint16]*View{0: {}}, map[name]object{}}
}

// Take works out what is known at the next event of a run; that it is one is for the caller to see to.
func (f *Flow) Take(e api.Event) View {
	own, met := f.goroutines[uint16(e.G)], f.met(e)
	own.learn(met.gives(e))
	own.Time++
	own.Place = f.taken
	f.taken++
	met.keeps(e, *own)
	switch o := met.(type) {
	case *begun: // its first event goes on from here
		f.goroutines[o.G] = &o.View
	case *ended: // what its last event knew is known here, and nobody asks for it again
		delete(f.goroutines, o.G)
	}
	return *own
}

// met is what an event meets beside its own goroutine.
func (f *Flow) met(e api.Event) object {
	switch e.Kind {
	case api.Fork:
		return &begun{View{G: uint16(e.Arg)}}
	case api.Join:
		return &ended{f.goroutines[uint16(e.Arg)]}
	}
	n := name{sortOf(e.Kind), e.Obj}
	if n.sort == noSort {
		return nothing{}
	}
	if f.objects[n] == nil {
		f.objects[n] = newObject(n.sort)
	}
	return f.objects[n]
}
