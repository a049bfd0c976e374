package lockset_test

import (
	"maps"
	"slices"
	"testing"

	"hindsight/api"
	"hindsight/check"
	"hindsight/lockset"
)

// ev is an event without a stack.
func ev(g, kind int, obj, arg uint64) api.Event {
	return api.Event{G: g, Kind: kind, Obj: obj, Arg: arg}
}

func read(g int, address, bytes uint64) api.Event  { return ev(g, api.Read, address, bytes) }
func write(g int, address, bytes uint64) api.Event { return ev(g, api.Write, address, bytes) }
func alloc(g int, address, bytes uint64) api.Event { return ev(g, api.Alloc, address, bytes) }
func free(g int, address, bytes uint64) api.Event  { return ev(g, api.Free, address, bytes) }
func acquire(g int, lock uint64) api.Event         { return ev(g, api.Acquire, lock, 0) }
func release(g int, lock uint64) api.Event         { return ev(g, api.Release, lock, 0) }
func racquire(g int, lock uint64) api.Event        { return ev(g, api.RAcquire, lock, 0) }
func rrelease(g int, lock uint64) api.Event        { return ev(g, api.RRelease, lock, 0) }

var (
	fork1 = ev(0, api.Fork, 0, 1)
	fork2 = ev(0, api.Fork, 0, 2)
	join1 = ev(0, api.Join, 0, 1)
	mark  = ev(0, api.Mark, 0, 0)
)

const top = 1<<64 - 1

// run are events behind the begin of the goroutines 1 and 2.
func run(events ...api.Event) []api.Event {
	return append([]api.Event{fork1, fork2}, events...)
}

func suspect(address uint64, at, state int) api.Suspect {
	return api.Suspect{Addr: address, At: at, State: state}
}

func isAccess(e api.Event) bool { return e.Kind == api.Read || e.Kind == api.Write }

func isLife(e api.Event) bool { return e.Kind == api.Alloc || e.Kind == api.Free }

// bytesOf are the addresses of an access, an Alloc or a Free.
func bytesOf(e api.Event) []uint64 {
	var list []uint64
	for k := range e.Arg {
		list = append(list, e.Obj+k)
	}
	return list
}

// known is what is known of a byte.
type known struct {
	state, owner int
	guards       []uint64
	suspect      bool
}

// plain goes over a run by the chapter's words, one by one, byte by byte.
type plain struct {
	checker *check.Checker
	bytes   map[uint64]known
	place   int
}

func newPlain() *plain {
	return &plain{check.New(), map[uint64]known{}, 0}
}

// held are the locks that are held for an access, rising.
func (p *plain) held(e api.Event) []uint64 {
	var list []uint64
	locks, toWrite := p.checker.Held(e.G)
	for k, lock := range locks {
		if e.Kind == api.Read || toWrite[k] {
			list = append(list, lock)
		}
	}
	return list
}

// add takes an event that can come: the suspects that come by it.
func (p *plain) add(t *testing.T, e api.Event) []api.Suspect {
	t.Helper()
	if reason, fault := p.checker.Add(e); reason != 0 || fault != api.OK {
		t.Fatalf("%v can't come at %d: %d, %d", e, p.place, reason, fault)
	}
	var list []api.Suspect
	for _, address := range addresses(e) {
		if isLife(e) {
			delete(p.bytes, address)
			continue
		}
		was := p.bytes[address]
		now := becomes(was, e, p.held(e))
		if now.state == api.Modified && len(now.guards) == 0 && !was.suspect {
			now.suspect = true
			list = append(list, suspect(address, p.place, was.state))
		}
		p.bytes[address] = now
	}
	p.place++
	return list
}

// addresses are those that an event touches or covers.
func addresses(e api.Event) []uint64 {
	if isAccess(e) || isLife(e) {
		return bytesOf(e)
	}
	return nil
}

// becomes is the chapter's table, row by row.
func becomes(b known, e api.Event, held []uint64) known {
	left := slices.DeleteFunc(slices.Clone(b.guards), func(lock uint64) bool { return !slices.Contains(held, lock) })
	switch {
	case b.state == 0:
		b.state, b.owner = 1, e.G
	case b.state == 1 && b.owner == e.G:
	case b.state == 1 && e.Kind == api.Read:
		b.state, b.guards = 2, held
	case b.state == 1 && e.Kind == api.Write:
		b.state, b.guards = 3, held
	case b.state == 2 && e.Kind == api.Read:
		b.guards = left
	case b.state == 2 && e.Kind == api.Write:
		b.state, b.guards = 3, left
	case b.state == 3:
		b.guards = left
	}
	return b
}

// plainly is a run that was gone over, and the suspects that came by it.
func plainly(t *testing.T, run []api.Event) (*plain, []api.Suspect) {
	t.Helper()
	p, all := newPlain(), []api.Suspect(nil)
	for _, e := range run {
		all = append(all, p.add(t, e)...)
	}
	return p, all
}

// at are those of some suspects that came by the event at a place.
func at(list []api.Suspect, place int) []api.Suspect {
	return slices.DeleteFunc(slices.Clone(list), func(s api.Suspect) bool { return s.At != place })
}

// holds holds all calls on a run against the plain reading, and answers the suspects.
func holds(t *testing.T, run []api.Event) []api.Suspect {
	t.Helper()
	p, want := plainly(t, run)
	finds(t, run, want...)
	w := lockset.New()
	for place, e := range run {
		if got, fault := w.Add(e); !slices.Equal(got, at(want, place)) || fault != api.OK {
			t.Fatalf("P20.4: of %v: Add of %d = %v, %d, want %v", run, place, got, fault, at(want, place))
		}
	}
	holdsGuards(t, p, run)
	return want
}

// holdsGuards holds Guards of a run against what is known, of all bytes that any event names, and of those
// beside them.
func holdsGuards(t *testing.T, p *plain, run []api.Event) {
	t.Helper()
	ask := map[uint64]int{0: 1, top: 1}
	for _, e := range run {
		if isAccess(e) || isLife(e) && e.Arg < 100 {
			for _, address := range bytesOf(e) {
				ask[address]++
			}
			ask[e.Obj-1]++
			ask[e.Obj+e.Arg]++
		}
	}
	for _, address := range slices.Sorted(maps.Keys(ask)) {
		b := p.bytes[address]
		guards(t, run, address, b.state, b.guards...)
	}
}

// finds fails if Find of a run answers other suspects.
func finds(t *testing.T, run []api.Event, want ...api.Suspect) {
	t.Helper()
	if got, place, fault := lockset.Find(run); !slices.Equal(got, want) || place != -1 || fault != api.OK {
		t.Fatalf("P20.2: Find(%v) = %v, %d, %d, want %v", run, got, place, fault, want)
	}
}

// guards fails if Guards of a byte behind a run answers another state, or other locks.
func guards(t *testing.T, run []api.Event, address uint64, state int, want ...uint64) {
	t.Helper()
	if s, got, place, fault := lockset.Guards(run, address); s != state || !slices.Equal(got, want) || place != -1 || fault != api.OK {
		t.Fatalf("P20.3: Guards(%v, %d) = %d, %v, %d, %d, want %d, %v", run, address, s, got, place, fault, state, want)
	}
}

// found fails if the suspects of a run are others than these, or than the plain reading says.
func found(t *testing.T, run []api.Event, want ...api.Suspect) {
	t.Helper()
	holds(t, run)
	finds(t, run, want...)
}

// added fails if a watcher answers other suspects of an event that it takes.
func added(t *testing.T, w *lockset.Watcher, e api.Event, want ...api.Suspect) {
	t.Helper()
	if got, fault := w.Add(e); !slices.Equal(got, want) || fault != api.OK {
		t.Fatalf("P20.4: Add(%v) = %v, %d, want %v", e, got, fault, want)
	}
}
