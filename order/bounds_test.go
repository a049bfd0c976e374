package order_test

import (
	"slices"
	"strings"
	"testing"

	"hindsight/api"
	"hindsight/order"
	"hindsight/samples"
)

// bad are events that may not be, each with its error.
var bad = []struct {
	e     api.Event
	fault api.Errno
}{
	{api.Event{}, api.ErrKind},
	{ev(-1, 23, 0, 0), api.ErrKind},
	{ev(0, -1, 0, 0), api.ErrKind},
	{ev(-1, api.Mark, 0, 0), api.ErrG},
	{ev(api.MaxG, api.Release, 0, 0), api.ErrG},
	{ev(1<<32, api.Mark, 0, 0), api.ErrG},
	{ev(0, api.Fork, 1, 1), api.ErrObj},
	{ev(0, api.Read, 1<<64-1, 2), api.ErrObj},
	{ev(0, api.Fork, 0, 0), api.ErrSize},
	{ev(0, api.Fork, 0, api.MaxG), api.ErrSize},
	{ev(0, api.Join, 0, api.MaxG), api.ErrSize},
	{ev(0, api.Acquire, 7, 1), api.ErrSize},
	{ev(0, api.Add, 7, 4294967295), api.ErrSize},
	{api.Event{Kind: api.Mark, Stack: make([]string, api.MaxDepth+1)}, api.ErrSite},
	{api.Event{Kind: api.Mark, Stack: []string{strings.Repeat("x", api.MaxSite+1)}}, api.ErrSite},
}

// refused fails if Build takes a trace, or answers another place or error.
func refused(t *testing.T, trace []api.Event, place int, want api.Errno) {
	t.Helper()
	if o, at, fault := order.Build(trace); o != nil || at != place || fault != want {
		t.Errorf("P18.1: Build = %t, %d, %d, want none, %d, %d", o != nil, at, fault, place, want)
	}
}

// TestBuildOutOfBounds: an error goes ahead of what is no run, wherever that is, with its place.
func TestBuildOutOfBounds(t *testing.T) {
	release := ev(0, api.Release, 7, 0)
	for _, b := range bad {
		for place := range 4 {
			for _, other := range []api.Event{mark, release} {
				trace := slices.Repeat([]api.Event{other}, 4)
				trace[place] = b.e
				refused(t, trace, place, b.fault)
				refused(t, append(trace, bad[0].e, bad[3].e), place, b.fault)
			}
		}
	}
}

// TestBuildNoRun: the first place at which it is none counts, for each reason that there is.
func TestBuildNoRun(t *testing.T) {
	made := []api.Event{fork1, ev(0, api.Make, 7, 0), ev(0, api.Make, 8, 1)}
	sent := append(slices.Clone(made), ev(1, api.Send, 7, 0), ev(0, api.Send, 8, 0))
	for _, trace := range [][]api.Event{ // the last event is that which can't come
		{ev(1, api.Mark, 0, 0)},
		{fork1, join1, ev(1, api.Mark, 0, 0)},
		append(slices.Clone(sent), ev(1, api.Mark, 0, 0)),
		{ev(0, api.Acquire, 7, 0), ev(0, api.Acquire, 7, 0)},
		{ev(0, api.Release, 7, 0)},
		{ev(0, api.Acquire, 7, 0), ev(0, api.RAcquire, 7, 0)},
		{ev(0, api.RRelease, 7, 0)},
		{fork1, fork1},
		{join1},
		{fork1, join1, join1},
		{ev(0, api.Join, 0, 0)},
		append(slices.Clone(sent), join1),
		append(slices.Clone(made), ev(1, api.Make, 8, 1)),
		{ev(0, api.Send, 7, 0)},
		append(slices.Clone(made), ev(0, api.Close, 8, 0), ev(0, api.Send, 8, 0)),
		append(slices.Clone(sent), ev(0, api.Send, 8, 0)),
		append(slices.Clone(made), ev(0, api.Recv, 8, 1)),
		append(slices.Clone(made), ev(0, api.Recv, 8, 0)),
		append(slices.Clone(sent), ev(0, api.Close, 8, 0), ev(0, api.Recv, 8, 0)),
		append(slices.Clone(sent), ev(0, api.Close, 7, 0)),
		append(slices.Clone(made), ev(0, api.Ack, 7, 0)),
		append(slices.Clone(sent), ev(1, api.Ack, 7, 0)),
		{ev(0, api.Add, 7, 1)},
		{ev(0, api.Add, 7, 2), ev(0, api.Wait, 7, 0)},
		{ev(0, api.Once, 7, 1), ev(0, api.Once, 7, 1)},
		{ev(0, api.Once, 7, 0)},
		{ev(0, api.Alloc, 7, 2), ev(0, api.Alloc, 8, 1)},
		{ev(0, api.Free, 7, 2)},
	} {
		n := len(trace) - 1
		holds(t, trace[:n])
		refused(t, trace, n, api.ErrBad)
		refused(t, append(slices.Clone(trace), ev(9, api.Mark, 0, 0)), n, api.ErrBad)
		refused(t, append(slices.Clone(trace), mark), n, api.ErrBad)
		refused(t, append(slices.Clone(trace), api.Event{}), n+1, api.ErrKind)
		tells(t, trace)
	}
}

// tells holds a tracker of a trace whose last event can't come: it is refused, and changes nothing.
func tells(t *testing.T, trace []api.Event) {
	t.Helper()
	asked, calm := order.New(), order.New()
	n := len(trace) - 1
	for _, e := range trace[:n] {
		asked.Add(e)
		calm.Add(e)
	}
	for range 2 {
		if c, fault := asked.Add(trace[n]); len(c) != 0 || fault != api.ErrBad {
			t.Errorf("P18.6: behind %v: Add(%v) = %v, %d", trace[:n], trace[n], c, fault)
		}
	}
	for _, e := range []api.Event{ev(0, api.Mark, 0, 0), ev(1, api.Mark, 0, 0), fork1, fork2, ev(2, api.Load, 7, 0), ev(0, api.Recv, 8, 1), ev(0, api.Recv, 7, 1), ev(1, api.Ack, 7, 0), ev(0, api.Close, 7, 0), ev(2, api.Recv, 7, 0), ev(0, api.Release, 7, 0), ev(2, api.Acquire, 7, 0), ev(2, api.Once, 7, 0), join1} {
		c, a := asked.Add(e)
		d, b := calm.Add(e)
		if !slices.Equal(c, d) || a != b {
			t.Errorf("P18.6: behind %v and the refused %v: Add(%v) = %v, %d, without it %v, %d", trace[:n], trace[n], e, c, a, d, b)
		}
	}
}

// TestTrackerErrors: an event that may not be has its error, also where it could not come; the tracker is
// as it was.
func TestTrackerErrors(t *testing.T) {
	r := order.New()
	for n := 1; n < 5; n++ {
		for _, b := range bad {
			for _, g := range []int{0, 7} { // 7 was not begun
				e := b.e
				if b.fault != api.ErrG {
					e.G = g
				}
				if c, fault := r.Add(e); len(c) != 0 || fault != b.fault {
					t.Errorf("P18.6: Add(%v) = %v, %d, want %d", e, c, fault, b.fault)
				}
			}
		}
		if c, fault := r.Add(ev(7, api.Mark, 0, 0)); len(c) != 0 || fault != api.ErrBad {
			t.Errorf("P18.6: Add = %v, %d, want ErrBad", c, fault)
		}
		if c, fault := r.Add(mark); !slices.Equal(c, []api.Tick{{G: 0, T: n}}) || fault != api.OK {
			t.Errorf("P18.6: Add = %v, %d, want the time %d", c, fault, n)
		}
	}
}

// TestTooMuchText: a trace whose stacks are too much together is not within bounds, wherever it is no run;
// a tracker takes its events one by one nevertheless.
func TestTooMuchText(t *testing.T) {
	var trace []api.Event
	for _, f := range samples.Longest(api.MaxText/api.MaxSite + 1) {
		trace = append(trace, api.Event{Kind: api.Mark, Stack: []string{f}})
	}
	n := len(trace) - 1
	refused(t, trace, n, api.ErrLarge)
	refused(t, append([]api.Event{join1}, trace...), n+1, api.ErrLarge)
	build(t, trace[:n])
	r := order.New()
	for k, e := range trace {
		if c, fault := r.Add(e); !slices.Equal(c, []api.Tick{{G: 0, T: k + 1}}) || fault != api.OK {
			t.Fatalf("P18.6: Add of %d = %v, %d", k, c, fault)
		}
	}
}

// TestManyEvents: a tracker takes MaxEvents events, what it refuses does not count; behind them the errors
// of an event go ahead of ErrLarge, and that ahead of ErrBad.
func TestManyEvents(t *testing.T) {
	r := order.New()
	add := func(e api.Event, want api.Errno, clock ...api.Tick) {
		t.Helper()
		if c, fault := r.Add(e); !slices.Equal(c, clock) || fault != want {
			t.Fatalf("P18.6: Add(%v) = %v, %d, want %v, %d", e, c, fault, clock, want)
		}
	}
	for n := range api.MaxEvents - 2 {
		add(mark, api.OK, api.Tick{G: 0, T: n + 1})
		if n%1000 == 0 {
			add(join1, api.ErrBad)
			add(api.Event{}, api.ErrKind)
		}
	}
	add(fork1, api.OK, api.Tick{G: 0, T: api.MaxEvents - 1})
	add(fork1, api.ErrBad)
	add(ev(1, api.Mark, 0, 0), api.OK, api.Tick{G: 0, T: api.MaxEvents - 1}, api.Tick{G: 1, T: 1})
	for range 2 {
		add(mark, api.ErrLarge)
		add(join1, api.ErrLarge)
		add(fork1, api.ErrLarge)
		add(ev(5, api.Mark, 0, 0), api.ErrLarge)
		add(api.Event{}, api.ErrKind)
		add(ev(-1, api.Mark, 0, 0), api.ErrG)
	}
}

func TestBuildManyEvents(t *testing.T) {
	trace := slices.Repeat([]api.Event{mark}, api.MaxEvents+1)
	refused(t, trace, api.MaxEvents, api.ErrLarge)
	trace[0] = api.Event{}
	refused(t, trace, api.MaxEvents, api.ErrLarge)
	refused(t, trace[:api.MaxEvents], 0, api.ErrKind)
	trace[0] = join1
	refused(t, trace, api.MaxEvents, api.ErrLarge)
	refused(t, trace[:api.MaxEvents], 0, api.ErrBad)
	trace[0], trace[api.MaxEvents-1] = mark, join1
	refused(t, trace[:api.MaxEvents], api.MaxEvents-1, api.ErrBad)
	trace[api.MaxEvents-1] = mark
	o := build(t, trace[:api.MaxEvents])
	noSuch(t, o, -1, api.MaxEvents)
	if chain, fault := o.Chain(0, api.MaxEvents-1); len(chain) != api.MaxEvents || chain[7] != 7 || fault != api.OK {
		t.Errorf("P18.5: a chain of %d events, %d", len(chain), fault)
	}
}

// TestNil: an order and a tracker that are not there.
func TestNil(t *testing.T) {
	var o *order.Order
	var r *order.Tracker
	if o.Len() != 0 {
		t.Errorf("P18.9: Len = %d", o.Len())
	}
	for _, i := range []int{-1, 0, 1} {
		if c, fault := o.Clock(i); len(c) != 0 || fault != api.ErrNil {
			t.Errorf("P18.9: Clock(%d) = %v, %d", i, c, fault)
		}
		if l, fault := o.Into(i); len(l) != 0 || fault != api.ErrNil {
			t.Errorf("P18.9: Into(%d) = %v, %d", i, l, fault)
		}
		if is, fault := o.Before(i, 0); is || fault != api.ErrNil {
			t.Errorf("P18.9: Before(%d, 0) = %t, %d", i, is, fault)
		}
		if l, fault := o.Chain(i, i); len(l) != 0 || fault != api.ErrNil {
			t.Errorf("P18.9: Chain(%d, %d) = %v, %d", i, i, l, fault)
		}
	}
	for _, e := range []api.Event{mark, {}, join1} {
		if c, fault := r.Add(e); len(c) != 0 || fault != api.ErrNil {
			t.Errorf("P18.9: Add(%v) = %v, %d", e, c, fault)
		}
	}
	if order.New() == nil {
		t.Error("P0.6: New is nil")
	}
}

// TestMadeByHand: an order or a tracker that no call made panics nowhere.
func TestMadeByHand(t *testing.T) {
	var o order.Order
	noSuch(t, &o, 0, -1)
	if o.Len() != 0 {
		t.Errorf("P0.1: Len = %d", o.Len())
	}
	if c, fault := new(order.Tracker).Add(mark); len(c) != 0 || fault != api.ErrNil {
		t.Errorf("P0.1: Add = %v, %d", c, fault)
	}
}
