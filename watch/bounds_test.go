package watch_test

import (
	"slices"
	"testing"

	"hindsight/api"
	"hindsight/samples"
	"hindsight/watch"
)

// analyzed holds Analyze against what is wanted, and against the plain verdict.
func analyzed(t *testing.T, trace []api.Event, want api.Verdict, f api.Errno) {
	t.Helper()
	got, e := watch.Analyze(trace)
	is(t, "P26.1: Analyze", got, e, want, f)
	other, g := plainVerdict(trace)
	is(t, "P26.1: the plain verdict", other, g, want, f)
}

// TestOutOfBounds: an error of an event goes ahead of what is no run, wherever that is.
func TestOutOfBounds(t *testing.T) {
	for _, b := range samples.Faults() {
		for place := range len(f1) + 3 {
			for _, other := range []api.Event{mark, write(0, 64), ev(0, api.Release, 7, 0), ev(9, api.Mark, 0, 0)} {
				trace := append(slices.Clone(f1), other, other, other)
				trace[place] = b.Event
				analyzed(t, trace, api.Verdict{}, b.Errno)
				analyzed(t, append(trace, samples.Faults()[0].Event, samples.Faults()[3].Event), api.Verdict{}, b.Errno)
			}
		}
	}
}

// TestNoRun: from each place on, for each reason; whatever races there are, none is told.
func TestNoRun(t *testing.T) {
	for k, wrong := range samples.NoRuns() {
		for marks := range 6 {
			trace := slices.Concat([]api.Event{fork1, write(0, 999), write(1, 999)}, slices.Repeat([]api.Event{mark}, marks), wrong)
			n := len(trace)
			analyzed(t, trace[:n-1], verdict(n-1, one), api.OK)
			analyzed(t, trace, api.Verdict{Events: n, Bad: n - 1, Reason: k + 1}, api.OK)
			trace = append(trace, write(0, 999), ev(7, api.Mark, 0, 0), mark)
			analyzed(t, trace, api.Verdict{Events: n + 3, Bad: n - 1, Reason: k + 1}, api.OK)
		}
	}
}

// TestTooMuch: a trace of too many events, or of stacks that are too much together, is not within bounds,
// wherever it is no run.
func TestTooMuch(t *testing.T) {
	trace := []api.Event{fork1}
	for k, f := range samples.Longest(api.MaxText/api.MaxSite + 1) {
		trace = append(trace, api.Event{G: k % 2, Kind: api.Mark, Stack: []string{f}})
	}
	n := len(trace)
	analyzed(t, trace, api.Verdict{}, api.ErrLarge)
	analyzed(t, trace[1:], api.Verdict{}, api.ErrLarge)
	analyzed(t, trace[:n-1], verdict(n-1), api.OK)
	analyzed(t, trace[1:n-1], api.Verdict{Events: n - 2, Bad: 1, Reason: 1}, api.OK)
	long := slices.Repeat([]api.Event{mark}, api.MaxEvents+1)
	analyzed(t, long, api.Verdict{}, api.ErrLarge)
	analyzed(t, append([]api.Event{{}}, long...), api.Verdict{}, api.ErrLarge)
	analyzed(t, long[1:], verdict(api.MaxEvents), api.OK)
}
