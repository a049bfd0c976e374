package deadlock_test

import (
	"slices"
	"testing"

	"hindsight/api"
	"hindsight/deadlock"
	"hindsight/samples"
)

// refused fails if one of the calls takes a trace, or answers another place or error.
func refused(t *testing.T, trace []api.Event, place int, want api.Errno) {
	t.Helper()
	if got, at, fault := deadlock.Holds(trace); len(got) != 0 || at != place || fault != want {
		t.Errorf("P21.1: Holds = %v, %d, %d, want none, %d, %d", got, at, fault, place, want)
	}
	if got, at, fault := deadlock.Cycles(trace); len(got) != 0 || at != place || fault != want {
		t.Errorf("P21.2: Cycles = %v, %d, %d, want none, %d, %d", got, at, fault, place, want)
	}
	if got, is, at, fault := deadlock.Order(trace); len(got) != 0 || is || at != place || fault != want {
		t.Errorf("P21.3: Order = %v, %t, %d, %d, want none, %d, %d", got, is, at, fault, place, want)
	}
}

// ringed begins with a ring: behind it whatever is wrong counts, and the ring does not.
var ringed = parts(2, nest(0, 1, 2), nest(1, 2, 1))

// row takes locks, one inside the other, from a number on, and gives none back.
func row(g int, from uint64, n int) []api.Event {
	var run []api.Event
	for k := range uint64(n) {
		run = append(run, acquire(g, from+k))
	}
	return run
}

// TestOutOfBounds: an error of an event goes ahead of what is no run, and of too many locks, wherever these are.
func TestOutOfBounds(t *testing.T) {
	faults := samples.Faults()
	deep := row(0, 100, api.MaxHeld+2)
	for _, b := range faults {
		for place := range len(ringed) + 3 {
			for _, other := range []api.Event{mark, release(0, 7), acquire(1, 1)} {
				trace := append(slices.Clone(ringed), other, other, other)
				trace[place] = b.Event
				refused(t, trace, place, b.Errno)
				refused(t, append(trace, faults[0].Event, faults[3].Event), place, b.Errno)
			}
		}
		refused(t, append(slices.Clone(deep), b.Event), len(deep), b.Errno)
		refused(t, append([]api.Event{b.Event}, deep...), 0, b.Errno)
	}
}

// TestNoRun: the first place at which it is none counts, for each reason that there is; it goes ahead of too many
// locks, also of those that are taken earlier.
func TestNoRun(t *testing.T) {
	deep := row(0, 100, api.MaxHeld+2)
	for _, wrong := range samples.NoRuns() {
		trace := slices.Concat(ringed, wrong)
		n := len(trace) - 1
		agrees(t, trace[:n], plainCycles)
		refused(t, trace, n, api.ErrBad)
		refused(t, append(slices.Clone(trace), ev(9, api.Mark, 0, 0)), n, api.ErrBad)
		refused(t, append(slices.Clone(trace), acquire(0, 77)), n, api.ErrBad)
		refused(t, append(slices.Clone(trace), api.Event{}), n+1, api.ErrKind)
		refused(t, slices.Concat(trace, deep), n, api.ErrBad)
		refused(t, slices.Concat(ringed, deep, wrong), n+len(deep), api.ErrBad)
	}
	refused(t, []api.Event{acquire(0, 1), acquire(0, 1)}, 1, api.ErrBad)
	refused(t, []api.Event{acquire(0, 1), racquire(0, 1)}, 1, api.ErrBad)
	refused(t, []api.Event{acquire(1, 1)}, 0, api.ErrBad)
}

// TestTooDeep: the first taking with more than MaxHeld others held, whose ever; how they are held does not matter,
// nor how often, nor whether the one that is taken is held already.
func TestTooDeep(t *testing.T) {
	const most = api.MaxHeld
	for _, n := range []int{most + 2, most + 3, most + 20} {
		refused(t, row(0, 100, n), most+1, api.ErrLarge)
		refused(t, slices.Concat(ringed, row(1, 100, n)), len(ringed)+most+1, api.ErrLarge)
	}
	var read []api.Event
	for lock := range uint64(most + 2) {
		read = append(read, racquire(0, lock), racquire(0, lock))
	}
	refused(t, read, 2*(most+1), api.ErrLarge)
	hasHoldsOf(t, read[:2*(most+1)])
	// Behind the deepest taking that may be nothing is taken: what else happens does not matter.
	calm := append(row(0, 100, most+1), mark, ev(0, api.Write, 8, 4), ev(0, api.Fork, 0, 1), release(0, 107))
	hasHoldsOf(t, calm)
	refused(t, append(calm, acquire(0, 200), acquire(0, 201)), len(calm)+1, api.ErrLarge)
	// A lock given back counts no longer.
	again := slices.Concat(row(0, 100, most+1), []api.Event{release(0, 120), acquire(0, 7), release(0, 7), acquire(0, 120)})
	hasHoldsOf(t, again)
	refused(t, append(again, acquire(0, 7)), len(again), api.ErrLarge)
	// What others hold does not count.
	var many []api.Event
	for g := range 4 {
		many = append(many, row(g, uint64(1000*g), most+1)...)
	}
	hasHoldsOf(t, parts(4, many))
	refused(t, append(parts(4, many), acquire(2, 9000), acquire(3, 9001)), 3+len(many), api.ErrLarge)
	// The one that is taken is no other one.
	own := slices.Concat([]api.Event{racquire(0, 5)}, row(0, 100, most))
	hasHoldsOf(t, append(slices.Clone(own), racquire(0, 5), racquire(0, 5)))
	refused(t, append(slices.Clone(own), racquire(0, 5), acquire(0, 6)), len(own)+1, api.ErrLarge)
	refused(t, append(slices.Clone(own), racquire(0, 6)), len(own), api.ErrLarge)
}

// hasHoldsOf fails if Holds and Order of a run don't answer what the plain reading says.
func hasHoldsOf(t *testing.T, run []api.Event) {
	t.Helper()
	list := plainHolds(run)
	hasHolds(t, run, bare(list)...)
	if order, is := plainOrder(run, list); is {
		hasOrder(t, run, order...)
	} else {
		hasNoOrder(t, run)
	}
}

// TestTooManyLocks: with exactly MaxHeld unlike locks in holds Cycles answers; with one more it does not, wherever
// they stand; Holds and Order answer all the same.
func TestTooManyLocks(t *testing.T) {
	const most = api.MaxHeld
	pairs := func(from, n int) []api.Event { // 2n locks, two and two of them in a hold
		var run []api.Event
		for k := range n {
			run = append(run, nest(k%2, from+2*k, from+2*k+1)...)
		}
		return run
	}
	large := func(run []api.Event) {
		t.Helper()
		hasHoldsOf(t, run)
		if got, place, fault := deadlock.Cycles(run); len(got) != 0 || place != -1 || fault != api.ErrLarge {
			t.Errorf("P21.2: Cycles = %v, %d, %d, want none, -1, %d", got, place, fault, api.ErrLarge)
		}
	}
	ring := []api.Hold{hold(0, 1, 2, 2), hold(1, 2, 1, 6)}
	fits := slices.Concat(ringed, pairs(1000, most/2-1))
	hasHoldsOf(t, fits)
	hasRings(t, fits, ring)
	large(slices.Concat(ringed, pairs(1000, most/2)))
	large(slices.Concat(fits, nest(0, 1, 5)))   // a new Inner
	large(slices.Concat(fits, nest(0, 5, 1)))   // a new Outer
	large(slices.Concat(nest(0, 1, 5), fits))   // at the begin
	large(slices.Concat(nest(0, -1, -5), fits)) // to read
	large(slices.Concat(fits, nest(0, 1, 1<<62)))
	// The same locks again are no more, in whatever order and way.
	again := slices.Concat(fits, nest(0, 1000, 1), nest(0, -1003, -1001), nest(0, 2, 1))
	hasHoldsOf(t, again)
	hasRings(t, again, quickCycles(plainHolds(again))...)
	// Locks that stand in no hold don't count.
	alone := slices.Clone(fits)
	for lock := range 300 {
		alone = append(alone, nest(lock%2, 5000+lock)...)
	}
	hasHoldsOf(t, alone)
	hasRings(t, alone, ring)
	// In one row.
	large(row(0, 7, most+1))
	hasRings(t, row(0, 7, most))
	large(slices.Concat(row(0, 7, most), []api.Event{release(0, 7+most-1), acquire(0, 7+most)}))
}

// TestGreatestPlaces: rings at the greatest places among MaxHeld locks, gates too.
func TestGreatestPlaces(t *testing.T) {
	const most = api.MaxHeld
	for _, gate := range []int{0, 1, most} {
		run := begin(4)
		for lock := 1; lock < most; lock++ {
			run = append(run, nest(0, lock, lock+1)...) // all stand in holds
		}
		for g := range 4 {
			locks := []int{most - 4 + g, most - 4 + (g+1)%4}
			if gate != 0 {
				locks = append([]int{gate}, locks...)
			}
			run = append(run, nest(g, locks...)...)
		}
		agrees(t, run, quickCycles)
	}
}

// TestTooMuchText: a trace whose stacks are too much together is not within bounds, wherever it is no run.
func TestTooMuchText(t *testing.T) {
	trace := slices.Clone(ringed)
	for _, f := range samples.Longest(api.MaxText/api.MaxSite + 1) {
		trace = append(trace, api.Event{Kind: api.Mark, Stack: []string{f}})
	}
	n := len(trace) - 1
	refused(t, trace, n, api.ErrLarge)
	refused(t, append([]api.Event{release(0, 7)}, trace...), n+1, api.ErrLarge)
	refused(t, slices.Concat(row(0, 7, api.MaxHeld+2), trace), n+api.MaxHeld+2, api.ErrLarge)
	agrees(t, trace[:n], plainCycles)
}

// TestManyEvents: MaxEvents events and one more, and what else may be wrong there.
func TestManyEvents(t *testing.T) {
	trace := slices.Repeat([]api.Event{mark}, api.MaxEvents+1)
	copy(trace, ringed)
	refused(t, trace, api.MaxEvents, api.ErrLarge)
	trace[9] = api.Event{}
	refused(t, trace, api.MaxEvents, api.ErrLarge)
	refused(t, trace[:api.MaxEvents], 9, api.ErrKind)
	trace[9] = release(0, 7)
	refused(t, trace, api.MaxEvents, api.ErrLarge)
	refused(t, trace[:api.MaxEvents], 9, api.ErrBad)
	trace[9], trace[api.MaxEvents-1] = mark, release(0, 7)
	refused(t, trace[:api.MaxEvents], api.MaxEvents-1, api.ErrBad)
	copy(trace[9:], row(0, 100, api.MaxHeld+2))
	refused(t, trace[:api.MaxEvents], api.MaxEvents-1, api.ErrBad)
	trace[api.MaxEvents-1] = mark
	refused(t, trace[:api.MaxEvents], 9+api.MaxHeld+1, api.ErrLarge)
	copy(trace[9:], slices.Repeat([]api.Event{mark}, api.MaxHeld+2))
	copy(trace[api.MaxEvents-2:], []api.Event{acquire(0, 1), acquire(0, 2)})
	hasHolds(t, trace[:api.MaxEvents], hold(0, 1, 2, 2), hold(1, 2, 1, 6), hold(0, 1, 2, api.MaxEvents-1))
	hasRings(t, trace[:api.MaxEvents], []api.Hold{hold(0, 1, 2, 2), hold(1, 2, 1, 6)})
	hasNoOrder(t, trace[:api.MaxEvents])
}
