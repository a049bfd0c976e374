package check_test

import (
	"slices"
	"strings"
	"testing"

	"hindsight/api"
	"hindsight/check"
	"hindsight/samples"
)

// bad is an event that may not be, and its error.
type bad struct {
	e     api.Event
	fault api.Errno
}

var bads = []bad{
	{api.Event{}, api.ErrKind},
	{ev(-1, 23, 0, 0), api.ErrKind},
	{ev(0, -1, 0, 0), api.ErrKind},
	{ev(-1, api.Mark, 0, 0), api.ErrG},
	{ev(api.MaxG, api.Release, 0, 0), api.ErrG},
	{ev(0, api.Fork, 1, 1), api.ErrObj},
	{ev(0, api.Alloc, last, 2), api.ErrObj},
	{ev(0, api.Free, last-5, 9), api.ErrObj},
	{ev(0, api.Fork, 0, 0), api.ErrSize},
	{ev(0, api.Fork, 0, api.MaxG), api.ErrSize},
	{ev(0, api.Join, 0, api.MaxG), api.ErrSize},
	{ev(0, api.Acquire, 7, 1), api.ErrSize},
	{ev(0, api.Make, 7, api.MaxCap+1), api.ErrSize},
	{ev(0, api.Recv, 7, 2), api.ErrSize},
	{ev(0, api.Once, 7, 2), api.ErrSize},
	{ev(0, api.Add, 7, 4294967295), api.ErrSize},
	{ev(0, api.Alloc, 7, 0), api.ErrSize},
	{ev(0, api.Free, 7, api.MaxLife+1), api.ErrSize},
	{api.Event{Kind: api.Mark, Stack: make([]string, api.MaxDepth+1)}, api.ErrSite},
	{api.Event{Kind: api.Mark, Stack: []string{strings.Repeat("x", api.MaxSite+1)}}, api.ErrSite},
}

// TestErrorsAheadOfReasons: an event that may not be has its error, also where a reason applies; the
// checker stays as it was.
func TestErrorsAheadOfReasons(t *testing.T) {
	p := newPair(t, fork1, fork2, ev(0, api.Make, 7, 0), ev(1, api.Send, 7, 0), ev(0, api.Acquire, 7, 0), ev(0, api.Join, 0, 2))
	for _, b := range bads {
		for _, g := range []int{0, 1, 2, 3} { // one that may act, one that waits, one that was joined, one that was not begun
			e := b.e
			if b.fault != api.ErrG {
				e.G = g
			}
			if reason, fault := p.add(e); reason != 0 || fault != b.fault {
				t.Errorf("P16.2: Add(%v) = %d, %d, want 0, %d", e, reason, fault, b.fault)
			}
		}
	}
	p.look(4)
	p.refuses(ev(0, api.Acquire, 7, 0), 4)
	p.takes(ev(0, api.Recv, 7, 1))
}

// TestRunOutOfBounds: an error goes ahead of all reasons, wherever they are, with its place.
func TestRunOutOfBounds(t *testing.T) {
	release := ev(0, api.Release, 7, 0)
	for _, b := range bads {
		for place := range 4 {
			for _, other := range []api.Event{mark, release} {
				trace := slices.Repeat([]api.Event{other}, 4)
				trace[place] = b.e
				if at, reason, fault := check.Run(trace); at != place || reason != 0 || fault != b.fault {
					t.Errorf("P16.4: Run(%v) = %d, %d, %d, want %d, 0, %d", trace, at, reason, fault, place, b.fault)
				}
			}
		}
	}
}

// TestTooMuchText: a trace whose stacks are too much together is not within bounds; a checker takes its
// events one by one nevertheless.
func TestTooMuchText(t *testing.T) {
	frames := samples.Longest(api.MaxText/api.MaxSite + 1)
	var trace []api.Event
	for _, f := range frames {
		trace = append(trace, api.Event{Kind: api.Mark, Stack: []string{f}})
	}
	n := len(trace) - 1
	for _, refused := range [][]api.Event{nil, {ev(0, api.Release, 7, 0)}} {
		long := slices.Concat(refused, trace, refused)
		place := len(refused) + n
		if at, reason, fault := check.Run(long); at != place || reason != 0 || fault != api.ErrLarge {
			t.Errorf("P16.4: Run = %d, %d, %d, want %d, 0, 3", at, reason, fault, place)
		}
	}
	if at, reason, fault := check.Run(trace[:n]); at != -1 || reason != 0 || fault != api.OK {
		t.Errorf("P16.4: Run = %d, %d, %d, want -1, 0, 0", at, reason, fault)
	}
	p := newPair(t)
	for _, e := range trace {
		p.takes(e)
	}
}

// TestManyEvents: a checker takes MaxEvents events; behind them errors go ahead of ErrLarge, and that
// ahead of reasons.
func TestManyEvents(t *testing.T) {
	c := check.New()
	add := func(e api.Event, wantReason int, want api.Errno) {
		t.Helper()
		if reason, fault := c.Add(e); reason != wantReason || fault != want {
			t.Fatalf("P16.2: Add(%v) = %d, %d, want %d, %d", e, reason, fault, wantReason, want)
		}
	}
	add(ev(0, api.Acquire, 7, 0), 0, api.OK)
	for range 1000 { // what is refused does not count
		add(ev(0, api.Acquire, 7, 0), 4, api.OK)
		add(api.Event{}, 0, api.ErrKind)
	}
	for range api.MaxEvents - 2 {
		add(mark, 0, api.OK)
	}
	add(ev(0, api.Acquire, 7, 0), 4, api.OK)
	add(fork1, 0, api.OK)
	for range 2 {
		add(mark, 0, api.ErrLarge)
		add(ev(0, api.Release, 7, 0), 0, api.ErrLarge)
		add(ev(0, api.Acquire, 7, 0), 0, api.ErrLarge)
		add(ev(5, api.Mark, 0, 0), 0, api.ErrLarge)
		add(api.Event{}, 0, api.ErrKind)
		add(ev(-1, api.Mark, 0, 0), 0, api.ErrG)
		if locks, toWrite := c.Held(0); !slices.Equal(locks, []uint64{7}) || !slices.Equal(toWrite, []bool{true}) {
			t.Errorf("P16.3: Held(0) = %v, %v", locks, toWrite)
		}
		if got := c.Alive(); !slices.Equal(got, two) {
			t.Errorf("P16.3: Alive = %v", got)
		}
	}
}

func TestRunOfManyEvents(t *testing.T) {
	trace := slices.Repeat([]api.Event{mark}, api.MaxEvents+1)
	answers := func(trace []api.Event, wantAt, wantReason int, want api.Errno) {
		t.Helper()
		if at, reason, fault := check.Run(trace); at != wantAt || reason != wantReason || fault != want {
			t.Errorf("P16.4: Run = %d, %d, %d, want %d, %d, %d", at, reason, fault, wantAt, wantReason, want)
		}
	}
	answers(trace[:api.MaxEvents], -1, 0, api.OK)
	answers(trace, api.MaxEvents, 0, api.ErrLarge)
	trace[api.MaxEvents-1] = join1
	answers(trace[:api.MaxEvents], api.MaxEvents-1, 9, api.OK)
	trace[0] = api.Event{}
	answers(trace, api.MaxEvents, 0, api.ErrLarge)
	answers(trace[:api.MaxEvents], 0, 0, api.ErrKind)
}
