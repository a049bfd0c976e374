package slice_test

import (
	"slices"
	"testing"

	"hindsight/api"
	"hindsight/check"
	"hindsight/event"
	"hindsight/order"
	"hindsight/slice"
)

// ev is an event without a stack.
func ev(g, kind int, obj, arg uint64) api.Event {
	return api.Event{G: g, Kind: kind, Obj: obj, Arg: arg}
}

func read(g int, address, bytes uint64) api.Event  { return ev(g, api.Read, address, bytes) }
func write(g int, address, bytes uint64) api.Event { return ev(g, api.Write, address, bytes) }
func acquire(g int, lock uint64) api.Event         { return ev(g, api.Acquire, lock, 0) }
func release(g int, lock uint64) api.Event         { return ev(g, api.Release, lock, 0) }
func racquire(g int, lock uint64) api.Event        { return ev(g, api.RAcquire, lock, 0) }
func rrelease(g int, lock uint64) api.Event        { return ev(g, api.RRelease, lock, 0) }
func fork(g, other int) api.Event                  { return ev(g, api.Fork, 0, uint64(other)) }
func join(g, other int) api.Event                  { return ev(g, api.Join, 0, uint64(other)) }
func create(g int, channel, room uint64) api.Event { return ev(g, api.Make, channel, room) }
func send(g int, channel uint64) api.Event         { return ev(g, api.Send, channel, 0) }
func ack(g int, channel uint64) api.Event          { return ev(g, api.Ack, channel, 0) }
func recv(g int, channel uint64) api.Event         { return ev(g, api.Recv, channel, 1) }
func drained(g int, channel uint64) api.Event      { return ev(g, api.Recv, channel, 0) }
func shut(g int, channel uint64) api.Event         { return ev(g, api.Close, channel, 0) }
func more(g int, group, n uint64) api.Event        { return ev(g, api.Add, group, 2*n) }
func less(g int, group, n uint64) api.Event        { return ev(g, api.Add, group, 2*n-1) }
func wait(g int, group uint64) api.Event           { return ev(g, api.Wait, group, 0) }
func ran(g int, once uint64) api.Event             { return ev(g, api.Once, once, 1) }
func had(g int, once uint64) api.Event             { return ev(g, api.Once, once, 0) }
func alloc(g int, address, bytes uint64) api.Event { return ev(g, api.Alloc, address, bytes) }
func free(g int, address, bytes uint64) api.Event  { return ev(g, api.Free, address, bytes) }

var mark = ev(0, api.Mark, 0, 0)

const top = 1<<64 - 1

func at(first, second int) api.Race { return api.Race{First: first, Second: second} }

func isAccess(e api.Event) bool { return e.Kind == api.Read || e.Kind == api.Write }

func ofChannel(e api.Event) bool { return e.Kind >= api.Make && e.Kind <= api.Close }

// chosen is a choice of n events that keeps those at some places.
func chosen(n int, places ...int) []bool {
	keep := make([]bool, n)
	for _, place := range places {
		keep[place] = true
	}
	return keep
}

// kept are the places that a choice keeps.
func kept(keep []bool) []int {
	var places []int
	for place, is := range keep {
		if is {
			places = append(places, place)
		}
	}
	return places
}

// where are the places of the events of a run, from one place on, ahead of another, of which something is so.
func where(run []api.Event, from, to int, is func(api.Event) bool) []int {
	var places []int
	for place := from; place < to; place++ {
		if is(run[place]) {
			places = append(places, place)
		}
	}
	return places
}

// first and last are those of some places, if there are any.
func first(places []int) []int { return places[:min(1, len(places))] }
func last(places []int) []int  { return places[max(0, len(places)-1):] }

// plainNeeds are what an event of a run needs: the chapter's words, one by one.
func plainNeeds(run []api.Event, i int) []int {
	e, n := run[i], len(run)
	forkOf := func(g int) []int {
		return where(run, 0, n, func(x api.Event) bool { return x.Kind == api.Fork && int(x.Arg) == g })
	}
	same := func(kind int) func(api.Event) bool {
		return func(x api.Event) bool { return x.Kind == kind && x.Obj == e.Obj }
	}
	sized := func(kind int) func(api.Event) bool {
		return func(x api.Event) bool { return x.Kind == kind && x.Obj == e.Obj && x.Arg == e.Arg }
	}
	var needs []int
	if e.G != 0 {
		needs = append(needs, forkOf(e.G)...)
	}
	switch e.Kind {
	case api.Join:
		if e.Arg != 0 {
			needs = append(needs, forkOf(int(e.Arg))...)
		}
	case api.Acquire:
		needs = append(needs, first(where(run, i+1, n, same(api.Release)))...)
	case api.Release:
		needs = append(needs, last(where(run, 0, i, same(api.Acquire)))...)
	case api.RAcquire:
		for j := i + 1; j < n; j++ {
			if run[j].Kind == api.RRelease && plainEnds(run, j) == i {
				needs = append(needs, j)
			}
		}
	case api.RRelease:
		needs = append(needs, plainEnds(run, i))
	case api.Add, api.Wait:
		needs = append(needs, where(run, 0, i, same(api.Add))...)
	case api.Once:
		if e.Arg == 0 {
			needs = append(needs, where(run, 0, n, func(x api.Event) bool { return same(api.Once)(x) && x.Arg == 1 })...)
		}
	case api.Alloc:
		needs = append(needs, first(where(run, i+1, n, sized(api.Free)))...)
	case api.Free:
		needs = append(needs, last(where(run, 0, i, sized(api.Alloc)))...)
	}
	if ofChannel(e) {
		needs = append(needs, where(run, 0, i, func(x api.Event) bool { return ofChannel(x) && x.Obj == e.Obj })...)
	}
	made := where(run, 0, n, same(api.Make))
	if e.Kind == api.Send && run[made[0]].Arg == 0 {
		needs = append(needs, first(where(run, i+1, n, func(x api.Event) bool { return x.G == e.G }))...)
	}
	return needs
}

// plainEnds is the RAcquire that an RRelease ends.
func plainEnds(run []api.Event, i int) int {
	e, ended := run[i], map[int]int{}
	same := func(kind int) func(api.Event) bool {
		return func(x api.Event) bool { return x.Kind == kind && x.Obj == e.Obj && x.G == e.G }
	}
	for _, j := range where(run, 0, i, same(api.RRelease)) {
		ended[plainEnds(run[:j+1], j)]++
	}
	open := slices.DeleteFunc(where(run, 0, i, same(api.RAcquire)), func(j int) bool { return ended[j] > 0 })
	return open[len(open)-1]
}

// plainAll are the needs of all events of a run.
func plainAll(run []api.Event) [][]int {
	needs := make([][]int, len(run))
	for i := range run {
		needs[i] = plainNeeds(run, i)
	}
	return needs
}

// plainClosed adds to a choice what its events need till nothing is new.
func plainClosed(needs [][]int, keep []bool) []bool {
	keep = slices.Clone(keep)
	for again := true; again; {
		again = false
		for i, is := range keep {
			for _, j := range needs[i] {
				if is && !keep[j] {
					keep[j], again = true, true
				}
			}
		}
	}
	return keep
}

// brief is the beginning of a list, for a message.
func brief[T any](list []T) []T { return list[:min(len(list), 100)] }

// closed is Closed of a run and a choice, which must take them.
func closed(t *testing.T, run []api.Event, keep []bool) []bool {
	t.Helper()
	got, place, fault := slice.Closed(run, keep)
	if place != -1 || fault != api.OK || len(got) != len(run) {
		t.Fatalf("P22.3: Closed(%v, %v) = %v, %d, %d", brief(run), brief(kept(keep)), brief(kept(got)), place, fault)
	}
	return got
}

// closes fails if Closed of a run and of those at some places keeps others, or others than the plain reading says.
func closes(t *testing.T, run []api.Event, places []int, want ...int) {
	t.Helper()
	keep := chosen(len(run), places...)
	if got := closed(t, run, keep); !slices.Equal(kept(got), want) {
		t.Errorf("P22.3: Closed(%v, %v) = %v, want %v", run, places, kept(got), want)
	}
	if plain := plainClosed(plainAll(run), keep); !slices.Equal(kept(plain), want) {
		t.Errorf("the plain reading of %v, %v is %v, want %v", run, places, kept(plain), want)
	}
}

// isRun fails if a trace is none.
func isRun(t *testing.T, trace []api.Event, promise string) {
	t.Helper()
	if place, reason, fault := check.Run(trace); place != -1 || reason != 0 || fault != api.OK {
		t.Fatalf("%s: %v is no run: %d, %s, %d", promise, brief(trace), place, check.Why(reason), fault)
	}
}

// sameEvents tells whether two lists have the same events.
func sameEvents(a, b []api.Event) bool {
	return slices.EqualFunc(a, b, event.Same)
}

// picked are the events of a trace at some places.
func picked(trace []api.Event, places []int) []api.Event {
	var some []api.Event
	for _, place := range places {
		some = append(some, trace[place])
	}
	return some
}

// orderOf is the order of a run.
func orderOf(t *testing.T, run []api.Event) *order.Order {
	t.Helper()
	o, place, fault := order.Build(run)
	if fault != api.OK {
		t.Fatalf("%v is no run: %d, %d", run, place, fault)
	}
	return o
}

func before(o *order.Order, i, j int) bool {
	is, _ := o.Before(i, j)
	return is
}

// has tells whether a byte is one of those from an event's Obj on.
func has(e api.Event, address uint64) bool { return address-e.Obj < e.Arg }

// plainRace tells whether two places of a run are a race, by the document's words.
func plainRace(run []api.Event, o *order.Order, i, j int) bool {
	if i < 0 || j >= len(run) || i >= j {
		return false
	}
	a, b := run[i], run[j]
	if !isAccess(a) || !isAccess(b) || a.G == b.G || a.Kind == api.Read && b.Kind == api.Read || before(o, i, j) {
		return false
	}
	for k := range a.Arg {
		address := a.Obj + k
		covered := func(e api.Event) bool { return (e.Kind == api.Alloc || e.Kind == api.Free) && has(e, address) }
		if has(b, address) && !slices.ContainsFunc(run[i+1:j], covered) {
			return true
		}
	}
	return false
}

// racesOf are all races of a run, not only those that are reported.
func racesOf(t *testing.T, run []api.Event) []api.Race {
	t.Helper()
	o := orderOf(t, run)
	var races []api.Race
	for j := range run {
		for i := range j {
			if plainRace(run, o, i, j) {
				races = append(races, at(i, j))
			}
		}
	}
	return races
}

// leaves fails if Only of a run leaves other events.
func leaves(t *testing.T, run []api.Event, lo, hi uint64, want ...int) {
	t.Helper()
	got, places, place, fault := slice.Only(run, lo, hi)
	if !slices.Equal(places, want) || !sameEvents(got, picked(run, want)) || place != -1 || fault != api.OK {
		t.Fatalf("P22.4: Only(%v, %d, %d) = %v, %v, %d, %d, want %v", brief(run), lo, hi, brief(got), brief(places), place, fault, brief(want))
	}
}

// plainOnly are the places that Only leaves, byte by byte.
func plainOnly(run []api.Event, lo, hi uint64) []int {
	return where(run, 0, len(run), func(e api.Event) bool {
		if !isAccess(e) {
			return true
		}
		for k := range e.Arg {
			if lo <= e.Obj+k && e.Obj+k <= hi {
				return true
			}
		}
		return false
	})
}

// around fails if Around of a race keeps other events.
func around(t *testing.T, run []api.Event, r api.Race, want ...int) {
	t.Helper()
	got, places, place, fault := slice.Around(run, r)
	if !slices.Equal(places, want) || !sameEvents(got, picked(run, want)) || place != -1 || fault != api.OK {
		t.Fatalf("P22.5: Around(%v, %v) = %v, %v, %d, %d, want %v", brief(run), r, brief(got), brief(places), place, fault, brief(want))
	}
}

// noRace fails if Around takes two places.
func noRace(t *testing.T, run []api.Event, races ...api.Race) {
	t.Helper()
	for _, r := range races {
		if got, places, place, fault := slice.Around(run, r); len(got) != 0 || len(places) != 0 || place != 0 || fault != api.ErrKeep {
			t.Fatalf("P22.5: Around(%v, %v) = %v, %v, %d, %d, want none, 0, %d", brief(run), r, brief(got), brief(places), place, fault, api.ErrKeep)
		}
	}
}
