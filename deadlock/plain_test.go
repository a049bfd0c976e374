package deadlock_test

import (
	"cmp"
	"maps"
	"slices"
	"testing"

	"hindsight/api"
	"hindsight/deadlock"
)

// ev is an event without a stack.
func ev(g, kind int, obj, arg uint64) api.Event {
	return api.Event{G: g, Kind: kind, Obj: obj, Arg: arg}
}

func acquire(g int, lock uint64) api.Event  { return ev(g, api.Acquire, lock, 0) }
func release(g int, lock uint64) api.Event  { return ev(g, api.Release, lock, 0) }
func racquire(g int, lock uint64) api.Event { return ev(g, api.RAcquire, lock, 0) }
func rrelease(g int, lock uint64) api.Event { return ev(g, api.RRelease, lock, 0) }

var mark = ev(0, api.Mark, 0, 0)

const top = 1<<64 - 1

// begin begins the goroutines below n.
func begin(n int) []api.Event {
	var run []api.Event
	for g := 1; g < n; g++ {
		run = append(run, ev(0, api.Fork, 0, uint64(g)))
	}
	return run
}

// nest is a goroutine that takes locks, one inside the other, and gives them back; one below 0 is taken to read.
func nest(g int, locks ...int) []api.Event {
	var take, give []api.Event
	for _, lock := range locks {
		if lock < 0 {
			take, give = append(take, racquire(g, uint64(-lock))), append(give, rrelease(g, uint64(-lock)))
		} else {
			take, give = append(take, acquire(g, uint64(lock))), append(give, release(g, uint64(lock)))
		}
	}
	slices.Reverse(give)
	return append(take, give...)
}

// parts are runs, one behind the other, behind the begin of the goroutines below n.
func parts(n int, runs ...[]api.Event) []api.Event {
	return slices.Concat(begin(n), slices.Concat(runs...))
}

// hold is one of locks to write.
func hold(g int, outer, inner uint64, at int) api.Hold {
	return api.Hold{G: g, Outer: outer, Inner: inner, At: at}
}

// times is how often a goroutine took a lock and did not give it back, to write and to read.
type times struct{ write, read int }

// hand are the locks that a goroutine holds: of each whether by RAcquires alone.
type hand map[uint64]bool

// taken is a hold, and all that its goroutine held ahead of its event.
type taken struct {
	api.Hold
	hand hand
}

// plainHolds lists the holds of a run by the chapter's words.
func plainHolds(run []api.Event) []taken {
	var list []taken
	count := map[int]map[uint64]times{}
	for at, e := range run {
		if count[e.G] == nil {
			count[e.G] = map[uint64]times{}
		}
		own := count[e.G]
		n := own[e.Obj]
		switch e.Kind {
		case api.Acquire:
			list = append(list, taking(own, e, at)...)
			n.write++
		case api.RAcquire:
			list = append(list, taking(own, e, at)...)
			n.read++
		case api.Release:
			n.write--
		case api.RRelease:
			n.read--
		}
		own[e.Obj] = n
	}
	return list
}

// taking are the holds of one event.
func taking(count map[uint64]times, e api.Event, at int) []taken {
	held := hand{}
	for lock, n := range count {
		if n.write+n.read > 0 {
			held[lock] = n.write == 0
		}
	}
	var list []taken
	for _, outer := range slices.Sorted(maps.Keys(held)) {
		if outer != e.Obj {
			list = append(list, taken{api.Hold{G: e.G, Outer: outer, Inner: e.Obj, OuterRead: held[outer], InnerRead: e.Kind == api.RAcquire, At: at}, held})
		}
	}
	return list
}

// gate tells whether there is one between two holds.
func gate(a, b taken) bool {
	for lock, read := range a.hand {
		if other, is := b.hand[lock]; is && !(read && other) {
			return true
		}
	}
	return false
}

// isRing is what the chapter says of a list of holds, word by word.
func isRing(list []taken) bool {
	if len(list) < 2 || len(list) > 4 {
		return false
	}
	for k, h := range list {
		next := list[(k+1)%len(list)]
		if h.Inner != next.Outer || h.InnerRead && next.OuterRead {
			return false
		}
		for _, other := range list[:k] {
			if h.G == other.G || h.Outer == other.Outer || gate(h, other) {
				return false
			}
		}
	}
	return true
}

// turned is a ring whose least lock comes first, its name, and its events.
func turned(list []taken) (ring []api.Hold, name []uint64, events []int) {
	least := 0
	for k, h := range list {
		if h.Outer < list[least].Outer {
			least = k
		}
	}
	for k := range list {
		h := list[(least+k)%len(list)].Hold
		ring, name, events = append(ring, h), append(name, h.Outer), append(events, h.At)
	}
	return ring, name, events
}

// found is a ring that is told unless a lesser one of its name comes.
type found struct {
	ring   []api.Hold
	name   []uint64
	events []int
}

// told are the rings in their order.
func told(all []found) [][]api.Hold {
	slices.SortFunc(all, func(a, b found) int {
		return cmp.Or(cmp.Compare(len(a.name), len(b.name)), slices.Compare(a.name, b.name), slices.Compare(a.events, b.events))
	})
	all = slices.CompactFunc(all, func(a, b found) bool { return slices.Equal(a.name, b.name) })
	var rings [][]api.Hold
	for _, f := range all {
		rings = append(rings, f.ring)
	}
	return rings
}

// plainCycles looks at all lists of up to four holds in which each takes what the next one holds.
func plainCycles(holds []taken) [][]api.Hold {
	var all []found
	var grow func(list []taken)
	grow = func(list []taken) {
		if isRing(list) {
			ring, name, events := turned(list)
			all = append(all, found{ring, name, events})
		}
		if len(list) == 4 {
			return
		}
		for _, h := range holds {
			if list[len(list)-1].Inner == h.Outer {
				grow(append(slices.Clip(list), h))
			}
		}
	}
	for _, h := range holds {
		grow([]taken{h})
	}
	return told(all)
}

// quickCycles does the same for longer lists of holds: it leaves a list as soon as two of it don't fit, and
// looks no further for a name that it has.
func quickCycles(holds []taken) [][]api.Hold {
	var all []found
	seen, next := map[[4]uint64]int{}, map[uint64][]taken{}
	for _, h := range holds {
		next[h.Outer] = append(next[h.Outer], h)
	}
	var grow func(list []taken)
	grow = func(list []taken) {
		last := list[len(list)-1]
		var key [4]uint64
		for k := range list {
			key[k] = list[k].Outer + 1
		}
		if last.Inner == list[0].Outer && seen[key] == 0 && isRing(list) {
			seen[key]++
			ring, name, events := turned(list)
			all = append(all, found{ring, name, events})
		}
		if len(list) == 4 || last.Inner <= list[0].Outer {
			return
		}
		for _, h := range next[last.Inner] {
			if !slices.ContainsFunc(list, func(x taken) bool { return x.G == h.G || x.Outer == h.Outer || gate(x, h) }) {
				grow(append(slices.Clip(list), h))
			}
		}
	}
	for _, h := range holds {
		grow([]taken{h})
	}
	return told(all)
}

// plainOrder puts, place by place, the least lock all of whose Outers stand already.
func plainOrder(run []api.Event, holds []taken) ([]uint64, bool) {
	left := map[uint64]int{}
	for _, e := range run {
		if e.Kind == api.Acquire || e.Kind == api.RAcquire {
			left[e.Obj]++
		}
	}
	var order []uint64
	for len(left) > 0 {
		free := maps.Clone(left)
		for _, h := range holds {
			if left[h.Outer] > 0 {
				delete(free, h.Inner)
			}
		}
		if len(free) == 0 {
			return nil, false
		}
		least := slices.Min(slices.Collect(maps.Keys(free)))
		order = append(order, least)
		delete(left, least)
	}
	return order, true
}

func bare(list []taken) []api.Hold {
	var holds []api.Hold
	for _, h := range list {
		holds = append(holds, h.Hold)
	}
	return holds
}

func sameRings(a, b [][]api.Hold) bool {
	return slices.EqualFunc(a, b, func(x, y []api.Hold) bool { return slices.Equal(x, y) })
}

// hasHolds fails if Holds of a run answers others.
func hasHolds(t *testing.T, run []api.Event, want ...api.Hold) {
	t.Helper()
	if got, place, fault := deadlock.Holds(run); !slices.Equal(got, want) || place != -1 || fault != api.OK {
		t.Fatalf("P21.1: Holds(%v) = %v, %d, %d, want %v", run, got, place, fault, want)
	}
}

// hasRings fails if Cycles of a run answers others.
func hasRings(t *testing.T, run []api.Event, want ...[]api.Hold) {
	t.Helper()
	if got, place, fault := deadlock.Cycles(run); !sameRings(got, want) || place != -1 || fault != api.OK {
		t.Fatalf("P21.2: Cycles(%v) = %v, %d, %d, want %v", run, got, place, fault, want)
	}
}

// hasOrder fails if Order of a run answers other locks.
func hasOrder(t *testing.T, run []api.Event, want ...uint64) {
	t.Helper()
	if got, is, place, fault := deadlock.Order(run); !slices.Equal(got, want) || !is || place != -1 || fault != api.OK {
		t.Fatalf("P21.3: Order(%v) = %v, %t, %d, %d, want %v", run, got, is, place, fault, want)
	}
}

// hasNoOrder fails if Order of a run answers one.
func hasNoOrder(t *testing.T, run []api.Event) {
	t.Helper()
	if got, is, place, fault := deadlock.Order(run); len(got) != 0 || is || place != -1 || fault != api.OK {
		t.Fatalf("P21.3: Order(%v) = %v, %t, %d, %d, want none", run, got, is, place, fault)
	}
}

// agrees holds all calls on a run against the plain reading, and answers the rings.
func agrees(t *testing.T, run []api.Event, cycles func([]taken) [][]api.Hold) [][]api.Hold {
	t.Helper()
	list := plainHolds(run)
	hasHolds(t, run, bare(list)...)
	rings := cycles(list)
	hasRings(t, run, rings...)
	if order, is := plainOrder(run, list); is {
		hasOrder(t, run, order...)
	} else {
		hasNoOrder(t, run)
	}
	return rings
}

// names fails if the rings of a run have other names, or others than the plain reading says.
func names(t *testing.T, run []api.Event, want ...[]uint64) {
	t.Helper()
	var got [][]uint64
	for _, ring := range agrees(t, run, plainCycles) {
		var name []uint64
		for _, h := range ring {
			name = append(name, h.Outer)
		}
		got = append(got, name)
	}
	if !slices.EqualFunc(got, want, func(a, b []uint64) bool { return slices.Equal(a, b) }) {
		t.Fatalf("P21.2: the rings of %v have the names %v, want %v", run, got, want)
	}
}
