package race_test

import (
	"slices"
	"testing"

	"hindsight/api"
	"hindsight/order"
	"hindsight/race"
)

// ev is an event without a stack.
func ev(g, kind int, obj, arg uint64) api.Event {
	return api.Event{G: g, Kind: kind, Obj: obj, Arg: arg}
}

func read(g int, address, bytes uint64) api.Event  { return ev(g, api.Read, address, bytes) }
func write(g int, address, bytes uint64) api.Event { return ev(g, api.Write, address, bytes) }

var (
	fork1 = ev(0, api.Fork, 0, 1)
	fork2 = ev(0, api.Fork, 0, 2)
	fork3 = ev(0, api.Fork, 0, 3)
	join1 = ev(0, api.Join, 0, 1)
	mark  = ev(0, api.Mark, 0, 0)
)

func isAccess(e api.Event) bool { return e.Kind == api.Read || e.Kind == api.Write }

func isLife(e api.Event) bool { return e.Kind == api.Alloc || e.Kind == api.Free }

// has tells whether a byte is one of those from an event's Obj on.
func has(e api.Event, address uint64) bool { return address-e.Obj < e.Arg }

// plain is a run, and which of its places are races: the document's words, one by one.
type plain struct {
	run   []api.Event
	order *order.Order
	races []api.Race // all, by their second places, then by their first ones
}

func newPlain(t *testing.T, run []api.Event) *plain {
	t.Helper()
	o, at, fault := order.Build(run)
	if fault != api.OK {
		t.Fatalf("%v is no run: %d, %d", run, at, fault)
	}
	p := &plain{run: run, order: o}
	for j := range run {
		for i := range j {
			if p.race(i, j) {
				p.races = append(p.races, api.Race{First: i, Second: j})
			}
		}
	}
	return p
}

// race tells whether two places are one, the first ahead of the second.
func (p *plain) race(i, j int) bool {
	a, b := p.run[i], p.run[j]
	if !isAccess(a) || !isAccess(b) || a.G == b.G || a.Kind == api.Read && b.Kind == api.Read {
		return false
	}
	if before, _ := p.order.Before(i, j); before {
		return false
	}
	for k := range a.Arg {
		if has(b, a.Obj+k) && !p.covered(a.Obj+k, i+1, j) {
			return true
		}
	}
	return false
}

// covered tells whether an Alloc or a Free covers a byte, from one place on, ahead of another.
func (p *plain) covered(address uint64, from, to int) bool {
	return slices.ContainsFunc(p.run[from:to], func(e api.Event) bool { return isLife(e) && has(e, address) })
}

// reported are, of the races with one second place and one first goroutine, the latest.
func (p *plain) reported() []api.Race {
	var list []api.Race
	for _, r := range p.races {
		if !slices.ContainsFunc(p.races, func(s api.Race) bool {
			return s.Second == r.Second && s.First > r.First && p.run[s.First].G == p.run[r.First].G
		}) {
			list = append(list, r)
		}
	}
	return list
}

// words are how many bytes something is to be kept for behind the first n events.
func (p *plain) words(n int) int {
	bytes := map[uint64]int{}
	for i, e := range p.run[:n] {
		for k := range e.Arg {
			if isAccess(e) && !p.covered(e.Obj+k, i, n) {
				bytes[e.Obj+k]++
			}
			if !isAccess(e) {
				break // its Arg may be any number
			}
		}
	}
	return len(bytes)
}

// second are those of some races that have a second place.
func second(list []api.Race, place int) []api.Race {
	var some []api.Race
	for _, r := range list {
		if r.Second == place {
			some = append(some, r)
		}
	}
	return some
}

// holds holds all calls on a run against the plain reading.
func holds(t *testing.T, run []api.Event) *plain {
	t.Helper()
	p := newPlain(t, run)
	want := p.reported()
	answers(t, run, want...)
	d := race.New()
	for place, e := range run {
		if got, fault := d.Add(e); !slices.Equal(got, second(want, place)) || fault != api.OK {
			t.Fatalf("P19.3: of %v: Add of %d = %v, %d, want %v", run, place, got, fault, second(want, place))
		}
		if got := d.Words(); got != p.words(place+1) {
			t.Fatalf("P19.4: of %v: behind %d: Words = %d, want %d", run, place, got, p.words(place+1))
		}
	}
	return p
}

// answers fails if All and First of a run answer other races.
func answers(t *testing.T, run []api.Event, want ...api.Race) {
	t.Helper()
	if got, at, fault := race.All(run); !slices.Equal(got, want) || at != -1 || fault != api.OK {
		t.Fatalf("P19.1: All(%v) = %v, %d, %d, want %v", run, got, at, fault, want)
	}
	var first api.Race
	if len(want) > 0 {
		first = want[0]
	}
	if got, is, at, fault := race.First(run); got != first || is != (len(want) > 0) || at != -1 || fault != api.OK {
		t.Fatalf("P19.2: First(%v) = %v, %t, %d, %d, want %v", run, got, is, at, fault, first)
	}
}

// found fails if the races of a run are others than these, or than the plain reading says.
func found(t *testing.T, run []api.Event, want ...api.Race) {
	t.Helper()
	holds(t, run)
	answers(t, run, want...)
}

// added fails if a detector answers other races of an event that it takes.
func added(t *testing.T, d *race.Detector, e api.Event, want ...api.Race) {
	t.Helper()
	if got, fault := d.Add(e); !slices.Equal(got, want) || fault != api.OK {
		t.Fatalf("P19.3: Add(%v) = %v, %d, want %v", e, got, fault, want)
	}
}
