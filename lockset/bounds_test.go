package lockset_test

import (
	"math"
	"slices"
	"testing"

	"hindsight/api"
	"hindsight/lockset"
	"hindsight/samples"
)

// refused fails if Find or Guards take a trace, or answer another place or error.
func refused(t *testing.T, trace []api.Event, place int, want api.Errno) {
	t.Helper()
	if got, at, fault := lockset.Find(trace); len(got) != 0 || at != place || fault != want {
		t.Errorf("P20.1: Find = %v, %d, %d, want none, %d, %d", got, at, fault, place, want)
	}
	for _, address := range []uint64{8, 0, math.MaxUint64} {
		if state, got, at, fault := lockset.Guards(trace, address); state != 0 || len(got) != 0 || at != place || fault != want {
			t.Errorf("P20.1: Guards of %d = %d, %v, %d, %d, want none, %d, %d", address, state, got, at, fault, place, want)
		}
	}
}

// shady begins with a suspect, and with a byte that has a guard: behind it whatever is wrong counts, and
// these do not.
var shady = []api.Event{fork1, write(1, 8, 4), acquire(0, 5), write(0, 11, 1), release(0, 5), write(0, 8, 1)}

// TestOutOfBounds: an error of an event goes ahead of what is no run, wherever that is, with its place.
func TestOutOfBounds(t *testing.T) {
	faults := samples.Faults()
	for _, b := range faults {
		for place := range 9 {
			for _, other := range []api.Event{mark, write(0, 8, 4), ev(0, api.Release, 7, 0)} {
				trace := append(slices.Clone(shady), other, other, other)
				trace[place] = b.Event
				refused(t, trace, place, b.Errno)
				refused(t, append(trace, faults[0].Event, faults[3].Event), place, b.Errno)
			}
		}
	}
}

// TestNoRun: the first place at which it is none counts, for each reason that there is; a watcher refuses
// the event there, and is as it was.
func TestNoRun(t *testing.T) {
	for _, wrong := range samples.NoRuns() {
		trace := slices.Concat(shady, wrong)
		n := len(trace) - 1
		holds(t, trace[:n])
		refused(t, trace, n, api.ErrBad)
		refused(t, append(slices.Clone(trace), ev(9, api.Mark, 0, 0)), n, api.ErrBad)
		refused(t, append(slices.Clone(trace), write(0, 8, 1)), n, api.ErrBad)
		refused(t, append(slices.Clone(trace), api.Event{}), n+1, api.ErrKind)
		unmoved(t, trace[:n], trace[n], api.ErrBad)
	}
	for _, b := range samples.Faults() {
		unmoved(t, shady, b.Event, b.Errno)
	}
}

// unmoved fails if a watcher takes an event behind a run, answers another error, or is not as it was.
func unmoved(t *testing.T, run []api.Event, e api.Event, want api.Errno) {
	t.Helper()
	asked, calm := lockset.New(), lockset.New()
	for _, x := range run {
		asked.Add(x)
		calm.Add(x)
	}
	for range 2 {
		if got, fault := asked.Add(e); len(got) != 0 || fault != want {
			t.Errorf("P20.4: behind %v: Add(%v) = %v, %d, want %d", run, e, got, fault, want)
		}
	}
	for _, x := range []api.Event{write(0, 11, 1), write(0, 8, 4), write(1, 9, 1), fork2, acquire(2, 5), read(2, 8, 8), write(2, 14, 2), release(2, 5), ev(1, api.Ack, 7, 0), ev(0, api.Release, 7, 0), alloc(0, 8, 4), write(0, 8, 8), write(1, 8, 8), read(2, 8, 8), join1, read(0, 7, 3)} {
		a, f := asked.Add(x)
		b, g := calm.Add(x)
		if !slices.Equal(a, b) || f != g {
			t.Errorf("P20.4: behind %v and the refused %v: Add(%v) = %v, %d, without it %v, %d", run, e, x, a, f, b, g)
		}
	}
}

// TestErrorsFirst: of an event that may not be and can't come, the error of the event.
func TestErrorsFirst(t *testing.T) {
	for _, b := range samples.Faults() {
		if b.Errno != api.ErrG {
			b.Event.G = 7 // it was not begun
		}
		unmoved(t, shady, b.Event, b.Errno)
	}
	unmoved(t, shady, write(7, 8, 4), api.ErrBad)
	unmoved(t, shady, acquire(7, 5), api.ErrBad)
	unmoved(t, shady, rrelease(0, 5), api.ErrBad)
}

// TestTooMuchText: a trace whose stacks are too much together is not within bounds, wherever it is no run;
// a watcher takes its events one by one nevertheless.
func TestTooMuchText(t *testing.T) {
	trace := []api.Event{fork1}
	for k, f := range samples.Longest(api.MaxText/api.MaxSite + 1) {
		trace = append(trace, api.Event{G: k % 2, Kind: api.Write, Obj: uint64(k / 2), Arg: 1, Stack: []string{f}})
	}
	n := len(trace) - 1
	refused(t, trace, n, api.ErrLarge)
	refused(t, append([]api.Event{join1}, trace...), n+1, api.ErrLarge)
	_, want := plainly(t, trace)
	finds(t, trace[:n], want...) // the last one is of a byte of its own
	w := lockset.New()
	for k, e := range trace {
		added(t, w, e, at(want, k)...)
	}
}

// TestManyEvents: a watcher takes MaxEvents events, what it refuses does not count; behind them the errors
// of an event go ahead of ErrLarge, and that ahead of ErrBad; it is as it was.
func TestManyEvents(t *testing.T) {
	w := lockset.New()
	no := func(e api.Event, want api.Errno) {
		t.Helper()
		if got, fault := w.Add(e); len(got) != 0 || fault != want {
			t.Fatalf("P20.4: Add(%v) = %v, %d, want %d", e, got, fault, want)
		}
	}
	added(t, w, fork1)
	for n := 1; n < api.MaxEvents; n++ {
		switch n % 4 {
		case 1:
			added(t, w, write(0, uint64(n), 1))
		case 2:
			added(t, w, write(1, uint64(n-1), 1), suspect(uint64(n-1), n, api.Exclusive))
		default:
			added(t, w, mark)
		}
		if n%1000 == 0 {
			no(ev(0, api.Join, 0, 9), api.ErrBad)
			no(api.Event{}, api.ErrKind)
		}
	}
	for range 2 {
		no(mark, api.ErrLarge)
		no(write(0, 99, 8), api.ErrLarge)
		no(alloc(0, 8, 1), api.ErrLarge)
		no(acquire(0, 8), api.ErrLarge)
		no(fork1, api.ErrLarge)
		no(write(9, 99, 8), api.ErrLarge)
		no(api.Event{}, api.ErrKind)
		no(ev(-1, api.Mark, 0, 0), api.ErrG)
		no(write(0, 99, 65), api.ErrSize)
	}
}

func TestFindOfManyEvents(t *testing.T) {
	trace := slices.Repeat([]api.Event{write(0, 8, 1)}, api.MaxEvents+1)
	refused(t, trace, api.MaxEvents, api.ErrLarge)
	trace[0] = api.Event{}
	refused(t, trace, api.MaxEvents, api.ErrLarge)
	refused(t, trace[:api.MaxEvents], 0, api.ErrKind)
	trace[0] = join1
	refused(t, trace, api.MaxEvents, api.ErrLarge)
	refused(t, trace[:api.MaxEvents], 0, api.ErrBad)
	trace[0], trace[api.MaxEvents-1] = fork1, fork1
	refused(t, trace[:api.MaxEvents], api.MaxEvents-1, api.ErrBad)
	trace[api.MaxEvents-1] = write(1, 8, 1)
	finds(t, trace[:api.MaxEvents], suspect(8, api.MaxEvents-1, api.Exclusive))
	guards(t, trace[:api.MaxEvents], 8, api.Modified)
	guards(t, trace[:api.MaxEvents-1], 8, api.Exclusive)
}

// TestNil: a watcher that is not there.
func TestNil(t *testing.T) {
	var w *lockset.Watcher
	for _, e := range []api.Event{mark, {}, join1, write(0, 8, 1), write(-1, 8, 99)} {
		if got, fault := w.Add(e); len(got) != 0 || fault != api.ErrNil {
			t.Errorf("P20.4: Add(%v) = %v, %d", e, got, fault)
		}
	}
	if lockset.New() == nil {
		t.Error("P0.6: New is nil")
	}
}

// TestMadeByHand: a watcher that New did not make panics nowhere.
func TestMadeByHand(t *testing.T) {
	var w lockset.Watcher
	for _, e := range []api.Event{mark, {}, write(0, 8, 1), alloc(0, 8, 1), acquire(0, 8), racquire(0, 8)} {
		if got, fault := w.Add(e); len(got) != 0 || fault != api.ErrNil {
			t.Errorf("P0.1: Add(%v) = %v, %d", e, got, fault)
		}
	}
}
