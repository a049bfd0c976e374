package flow

import (
	"hindsight/api"
	"hindsight/wire"
)

// object is what an event meets beside its own goroutine. The clock of an event grows by what the object
// gives it; then the object keeps of this clock what is there for later events. (A view's clock is made
// when it is asked for: most events leave nothing behind.)
type object interface {
	gives(e api.Event) *Times
	keeps(e api.Event, v View)
}

// Sorts of objects: those of one sort are told apart by their numbers.
const (
	noSort = iota
	lockSort
	channelSort
	groupSort
	onceSort
	atomicSort
)

// name is what an object is known by.
type name struct {
	sort   int
	number uint64
}

func sortOf(kind int) int {
	switch kind {
	case api.Acquire, api.Release, api.RAcquire, api.RRelease:
		return lockSort
	case api.Make, api.Send, api.Ack, api.Recv, api.Close:
		return channelSort
	case api.Add, api.Wait:
		return groupSort
	case api.Once:
		return onceSort
	case api.Load, api.Store, api.Swap:
		return atomicSort
	}
	return noSort
}

func newObject(sort int) object {
	switch sort {
	case lockSort:
		return &lock{}
	case channelSort:
		return &channel{}
	case groupSort:
		return &group{}
	case onceSort:
		return &once{}
	}
	return &atomic{}
}

// nothing is met by events that no other goroutine's events hang on.
type nothing struct{}

func (nothing) gives(api.Event) *Times { return nil }

func (nothing) keeps(api.Event, View) {}

// begun is the goroutine that a Fork names: its view is that ahead of its first event.
type begun struct{ View }

func (b *begun) gives(api.Event) *Times { return nil }

func (b *begun) keeps(_ api.Event, v View) { b.Known = v.Clock() }

// ended is the goroutine that a Join names: its view is that at its last event, or, if it has none, ahead
// of the first.
type ended struct{ *View }

func (d *ended) gives(api.Event) *Times { return d.Clock() }

func (d *ended) keeps(api.Event, View) {}

// lock holds what it has for those who take it, to read or to write. A writer's Release knows of all
// that was given back before; readers don't know of each other.
type lock struct{ toRead, toWrite *Times }

func (l *lock) gives(e api.Event) *Times {
	switch e.Kind {
	case api.Acquire:
		return l.toWrite
	case api.RAcquire:
		return l.toRead
	}
	return nil
}

func (l *lock) keeps(e api.Event, v View) {
	switch e.Kind {
	case api.Release:
		l.toRead = v.Clock()
		l.toWrite = l.toRead
	case api.RRelease:
		l.toWrite = Join(l.toWrite, v.Clock())
	}
}

// group is a wait group: it gathers what all those know that lowered its counter.
type group struct{ lowered *Times }

func (w *group) gives(e api.Event) *Times {
	if e.Kind == api.Wait {
		return w.lowered
	}
	return nil
}

func (w *group) keeps(e api.Event, v View) {
	if wire.Zag(e.Arg) < 0 { // that of a Wait is 0
		w.lowered = Join(w.lowered, v.Clock())
	}
}

// once holds what the one knew that ran it.
type once struct{ ran *Times }

func (o *once) gives(api.Event) *Times { return o.ran }

func (o *once) keeps(e api.Event, v View) {
	if e.Arg == 1 {
		o.ran = v.Clock()
	}
}

// atomic gathers what all those know that stored something in it.
type atomic struct{ stored *Times }

func (a *atomic) gives(e api.Event) *Times {
	if e.Kind == api.Store {
		return nil
	}
	return a.stored
}

func (a *atomic) keeps(e api.Event, v View) {
	if e.Kind != api.Load {
		a.stored = Join(a.stored, v.Clock())
	}
}
