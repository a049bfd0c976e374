package slice_test

import (
	"math"
	"slices"
	"testing"

	"hindsight/api"
	"hindsight/samples"
	"hindsight/slice"
)

// refused fails if a call that wants a run takes a trace, or answers another place or error; whatever else is
// wrong with what it is asked.
func refused(t *testing.T, trace []api.Event, place int, want api.Errno) {
	t.Helper()
	all := slices.Repeat([]bool{true}, len(trace))
	for _, keep := range [][]bool{nil, {true}, make([]bool, len(trace)), all, append(all, true)} {
		if got, at, fault := slice.Closed(trace, keep); len(got) != 0 || at != place || fault != want {
			t.Errorf("P22.3: Closed = %v, %d, %d, want none, %d, %d", brief(got), at, fault, place, want)
		}
	}
	for _, x := range [][2]uint64{{0, top}, {8, 8}, {9, 8}, {top, 0}} {
		if got, places, at, fault := slice.Only(trace, x[0], x[1]); len(got) != 0 || len(places) != 0 || at != place || fault != want {
			t.Errorf("P22.4: Only = %v, %v, %d, %d, want none, %d, %d", brief(got), brief(places), at, fault, place, want)
		}
	}
	for _, x := range []api.Race{at(1, 2), at(2, 1), at(0, 0), at(-1, -1), at(math.MaxInt, math.MaxInt)} {
		if got, places, at, fault := slice.Around(trace, x); len(got) != 0 || len(places) != 0 || at != place || fault != want {
			t.Errorf("P22.5: Around = %v, %v, %d, %d, want none, %d, %d", brief(got), brief(places), at, fault, place, want)
		}
	}
}

// raced begins with a race: behind it whatever is wrong counts, and the race does not.
var raced = []api.Event{fork(0, 1), write(1, 8, 4), write(0, 11, 1), read(0, 100, 1)}

// TestOutOfBounds: an error of an event goes ahead of what is no run, wherever that is, with its place.
func TestOutOfBounds(t *testing.T) {
	faults := samples.Faults()
	for _, b := range faults {
		for place := range len(raced) + 3 {
			for _, other := range []api.Event{mark, write(0, 8, 4), release(0, 7)} {
				trace := append(slices.Clone(raced), other, other, other)
				trace[place] = b.Event
				refused(t, trace, place, b.Errno)
				refused(t, append(trace, faults[0].Event, faults[3].Event), place, b.Errno)
			}
		}
		begins(t, []api.Event{mark, b.Event, mark}, 2)
		takes(t, []api.Event{mark, b.Event, mark}, 1, 2)
	}
}

// TestNoRun: the first place at which it is none counts, for each reason that there is; what lies ahead of it is
// a run.
func TestNoRun(t *testing.T) {
	for _, wrong := range samples.NoRuns() {
		trace := slices.Concat(raced, wrong)
		n := len(trace) - 1
		around(t, trace[:n], at(1, 2), 0, 1, 2)
		leaves(t, trace[:n], 8, 8, plainOnly(trace[:n], 8, 8)...)
		closes(t, trace[:n], []int{1}, 0, 1)
		refused(t, trace, n, api.ErrBad)
		refused(t, append(slices.Clone(trace), ev(9, api.Mark, 0, 0)), n, api.ErrBad)
		refused(t, append(slices.Clone(trace), write(0, 8, 1)), n, api.ErrBad)
		refused(t, append(slices.Clone(trace), api.Event{}), n+1, api.ErrKind)
		begins(t, trace, n+1)
		takes(t, trace, 1, n)
	}
	refused(t, []api.Event{ev(1, api.Mark, 0, 0)}, 0, api.ErrBad)
	refused(t, []api.Event{mark, {}}, 1, api.ErrKind)
}

// TestTooMuchText: a trace whose stacks are too much together is not within bounds, wherever it is no run; Prefix
// and Take don't ask.
func TestTooMuchText(t *testing.T) {
	trace := slices.Clone(raced)
	for _, f := range samples.Longest(api.MaxText/api.MaxSite + 1) {
		trace = append(trace, api.Event{Kind: api.Mark, Stack: []string{f}})
	}
	n := len(trace) - 1
	refused(t, trace, n, api.ErrLarge)
	refused(t, append([]api.Event{release(0, 7)}, trace...), n+1, api.ErrLarge)
	around(t, trace[:n], at(1, 2), 0, 1, 2)
	for _, call := range []func() ([]api.Event, api.Errno){
		func() ([]api.Event, api.Errno) { return slice.Prefix(trace, n+1) },
		func() ([]api.Event, api.Errno) {
			got, _, fault := slice.Take(trace, slices.Repeat([]bool{true}, n+1))
			return got, fault
		},
	} {
		if got, fault := call(); !sameEvents(got, trace) || fault != api.OK {
			t.Errorf("P22.1: %d events, %d", len(got), fault)
		}
	}
}

// TestManyEvents: MaxEvents events and one more, and what else may be wrong there.
func TestManyEvents(t *testing.T) {
	trace := slices.Repeat([]api.Event{mark}, api.MaxEvents+1)
	copy(trace, raced)
	refused(t, trace, api.MaxEvents, api.ErrLarge)
	trace[9] = api.Event{}
	refused(t, trace, api.MaxEvents, api.ErrLarge)
	refused(t, trace[:api.MaxEvents], 9, api.ErrKind)
	trace[9] = release(0, 7)
	refused(t, trace, api.MaxEvents, api.ErrLarge)
	refused(t, trace[:api.MaxEvents], 9, api.ErrBad)
	trace[9], trace[api.MaxEvents-1] = mark, release(0, 7)
	refused(t, trace[:api.MaxEvents], api.MaxEvents-1, api.ErrBad)
	trace[api.MaxEvents-1] = write(1, 100, 1)
	around(t, trace[:api.MaxEvents], at(3, api.MaxEvents-1), 0, 3, api.MaxEvents-1)
	noRace(t, trace[:api.MaxEvents], at(1, api.MaxEvents-1), at(3, api.MaxEvents), at(3, api.MaxEvents-2))
	// Prefix and Take have no bound of their own.
	if got, fault := slice.Prefix(trace, api.MaxEvents+1); !sameEvents(got, trace) || fault != api.OK {
		t.Errorf("P22.1: %d events, %d", len(got), fault)
	}
	keep := chosen(api.MaxEvents+1, 1, api.MaxEvents)
	if got, places, fault := slice.Take(trace, keep); !slices.Equal(places, []int{1, api.MaxEvents}) || len(got) != 2 || fault != api.OK {
		t.Errorf("P22.2: %v, %v, %d", brief(got), brief(places), fault)
	}
}
