package race_test

import (
	"slices"
	"testing"

	"hindsight/api"
	"hindsight/race"
	"hindsight/samples"
)

// refused fails if All or First take a trace, or answer another place or error.
func refused(t *testing.T, trace []api.Event, place int, want api.Errno) {
	t.Helper()
	if got, at, fault := race.All(trace); len(got) != 0 || at != place || fault != want {
		t.Errorf("P19.1: All = %v, %d, %d, want none, %d, %d", got, at, fault, place, want)
	}
	if got, is, at, fault := race.First(trace); got != (api.Race{}) || is || at != place || fault != want {
		t.Errorf("P19.2: First = %v, %t, %d, %d, want none, %d, %d", got, is, at, fault, place, want)
	}
}

// racy begins with a race: behind it whatever is wrong counts, and the race does not.
var racy = []api.Event{fork1, write(1, 8, 4), write(0, 8, 4)}

// TestOutOfBounds: an error of an event goes ahead of what is no run, wherever that is, with its place.
func TestOutOfBounds(t *testing.T) {
	for _, b := range samples.Faults() {
		for place := range 6 {
			for _, other := range []api.Event{mark, write(0, 8, 4), ev(0, api.Release, 7, 0)} {
				trace := append(slices.Clone(racy), other, other, other)
				trace[place] = b.Event
				refused(t, trace, place, b.Errno)
				refused(t, append(trace, samples.Faults()[0].Event, samples.Faults()[3].Event), place, b.Errno)
			}
		}
	}
}

// TestNoRun: the first place at which it is none counts, for each reason that there is; a detector refuses
// the event there, and is as it was.
func TestNoRun(t *testing.T) {
	for _, wrong := range samples.NoRuns() {
		trace := slices.Concat(racy, wrong)
		n := len(trace) - 1
		holds(t, trace[:n])
		refused(t, trace, n, api.ErrBad)
		refused(t, append(slices.Clone(trace), ev(9, api.Mark, 0, 0)), n, api.ErrBad)
		refused(t, append(slices.Clone(trace), write(0, 8, 1)), n, api.ErrBad)
		refused(t, append(slices.Clone(trace), api.Event{}), n+1, api.ErrKind)
		unmoved(t, trace[:n], trace[n], api.ErrBad)
	}
	for _, b := range samples.Faults() {
		unmoved(t, racy, b.Event, b.Errno)
	}
}

// unmoved fails if a detector takes an event behind a run, answers another error, or is not as it was.
func unmoved(t *testing.T, run []api.Event, e api.Event, want api.Errno) {
	t.Helper()
	asked, calm := race.New(), race.New()
	for _, x := range run {
		asked.Add(x)
		calm.Add(x)
	}
	for range 2 {
		if got, fault := asked.Add(e); len(got) != 0 || fault != want || asked.Words() != calm.Words() {
			t.Errorf("P19.3: behind %v: Add(%v) = %v, %d, want %d; Words = %d, %d", run, e, got, fault, want, asked.Words(), calm.Words())
		}
	}
	for _, x := range []api.Event{write(0, 8, 4), write(1, 9, 1), fork2, read(2, 8, 8), ev(0, api.Alloc, 8, 4), write(0, 8, 8), ev(1, api.Ack, 7, 0), ev(0, api.Release, 7, 0), write(1, 8, 8), read(2, 8, 8), join1, read(0, 7, 3)} {
		a, f := asked.Add(x)
		b, g := calm.Add(x)
		if !slices.Equal(a, b) || f != g || asked.Words() != calm.Words() {
			t.Errorf("P19.3: behind %v and the refused %v: Add(%v) = %v, %d, without it %v, %d", run, e, x, a, f, b, g)
		}
	}
}

// TestErrorsFirst: of an event that may not be and can't come, the error of the event.
func TestErrorsFirst(t *testing.T) {
	for _, b := range samples.Faults() {
		if b.Errno != api.ErrG {
			b.Event.G = 7 // it was not begun
		}
		unmoved(t, racy, b.Event, b.Errno)
	}
	unmoved(t, racy, write(7, 8, 4), api.ErrBad)
}

// TestTooMuchText: a trace whose stacks are too much together is not within bounds, wherever it is no run;
// a detector takes its events one by one nevertheless.
func TestTooMuchText(t *testing.T) {
	trace := []api.Event{fork1}
	for k, f := range samples.Longest(api.MaxText/api.MaxSite + 1) {
		trace = append(trace, api.Event{G: k % 2, Kind: api.Write, Obj: 8, Arg: 1, Stack: []string{f}})
	}
	n := len(trace) - 1
	refused(t, trace, n, api.ErrLarge)
	refused(t, append([]api.Event{join1}, trace...), n+1, api.ErrLarge)
	answers(t, trace[:n], firsts(t, trace[:n])...)
	d := race.New()
	for k, e := range trace {
		if k < 2 {
			added(t, d, e)
		} else {
			added(t, d, e, at(k-1, k))
		}
	}
}

// TestManyEvents: a detector takes MaxEvents events, what it refuses does not count; behind them the errors
// of an event go ahead of ErrLarge, and that ahead of ErrBad; it is as it was.
func TestManyEvents(t *testing.T) {
	d := race.New()
	no := func(e api.Event, want api.Errno) {
		t.Helper()
		if got, fault := d.Add(e); len(got) != 0 || fault != want {
			t.Fatalf("P19.3: Add(%v) = %v, %d, want %d", e, got, fault, want)
		}
	}
	added(t, d, fork1)
	for n := 1; n < api.MaxEvents; n++ {
		switch n % 4 {
		case 1:
			added(t, d, mark)
		case 2:
			added(t, d, ev(1, api.Store, 5, 0))
		default: // each is the second of a race with the one ahead of it, but the first of all
			added(t, d, write(n%2, 8, 1), second([]api.Race{at(n-1-2*(n%2), n)}, max(n, 4))...)
		}
		if n%1000 == 0 {
			no(ev(0, api.Join, 0, 9), api.ErrBad)
			no(api.Event{}, api.ErrKind)
		}
	}
	for range 2 {
		no(mark, api.ErrLarge)
		no(write(0, 99, 8), api.ErrLarge)
		no(ev(0, api.Alloc, 8, 1), api.ErrLarge)
		no(fork1, api.ErrLarge)
		no(write(9, 99, 8), api.ErrLarge)
		no(api.Event{}, api.ErrKind)
		no(ev(-1, api.Mark, 0, 0), api.ErrG)
		no(write(0, 99, 65), api.ErrSize)
		if d.Words() != 1 {
			t.Errorf("P19.3: behind MaxEvents events Words = %d", d.Words())
		}
	}
}

func TestAllOfManyEvents(t *testing.T) {
	trace := slices.Repeat([]api.Event{write(0, 8, 1)}, api.MaxEvents+1)
	refused(t, trace, api.MaxEvents, api.ErrLarge)
	trace[0] = api.Event{}
	refused(t, trace, api.MaxEvents, api.ErrLarge)
	refused(t, trace[:api.MaxEvents], 0, api.ErrKind)
	trace[0] = join1
	refused(t, trace, api.MaxEvents, api.ErrLarge)
	refused(t, trace[:api.MaxEvents], 0, api.ErrBad)
	trace[0], trace[api.MaxEvents-1] = fork1, fork1
	refused(t, trace[:api.MaxEvents], api.MaxEvents-1, api.ErrBad)
	trace[api.MaxEvents-1] = read(1, 8, 1)
	answers(t, trace[:api.MaxEvents], at(api.MaxEvents-2, api.MaxEvents-1))
}

// TestNil: a detector that is not there.
func TestNil(t *testing.T) {
	var d *race.Detector
	for _, e := range []api.Event{mark, {}, join1, write(0, 8, 1), write(-1, 8, 99)} {
		if got, fault := d.Add(e); len(got) != 0 || fault != api.ErrNil {
			t.Errorf("P0.6: Add(%v) = %v, %d", e, got, fault)
		}
	}
	if d.Words() != 0 {
		t.Errorf("P19.4: Words = %d", d.Words())
	}
	if race.New() == nil {
		t.Error("P0.6: New is nil")
	}
}

// TestMadeByHand: a detector that New did not make panics nowhere.
func TestMadeByHand(t *testing.T) {
	var d race.Detector
	for _, e := range []api.Event{mark, {}, write(0, 8, 1), ev(0, api.Alloc, 8, 1)} {
		if got, fault := d.Add(e); len(got) != 0 || fault != api.ErrNil {
			t.Errorf("P0.1: Add(%v) = %v, %d", e, got, fault)
		}
	}
	if d.Words() != 0 {
		t.Errorf("P0.1: Words = %d", d.Words())
	}
}
