package order_test

import (
	"math"
	"slices"
	"testing"

	"hindsight/api"
	"hindsight/order"
)

// asked is a run's order, and a test that asks it.
type asked struct {
	t *testing.T
	*order.Order
}

func ask(t *testing.T, run ...api.Event) asked {
	t.Helper()
	holds(t, run)
	return asked{t, build(t, run)}
}

func (o asked) before(i, j int, want bool) {
	o.t.Helper()
	if got, fault := o.Before(i, j); got != want || fault != api.OK {
		o.t.Errorf("P18.3: Before(%d, %d) = %t, %d", i, j, got, fault)
	}
}

func (o asked) clock(i int, want ...api.Tick) {
	o.t.Helper()
	if got, fault := o.Clock(i); !slices.Equal(got, want) || fault != api.OK {
		o.t.Errorf("P18.2: Clock(%d) = %v, %d, want %v", i, got, fault, want)
	}
}

func (o asked) into(j int, want ...int) {
	o.t.Helper()
	if got, fault := o.Into(j); !slices.Equal(got, want) || fault != api.OK {
		o.t.Errorf("P18.4: Into(%d) = %v, %d, want %v", j, got, fault, want)
	}
}

func (o asked) chain(i, j int, want ...int) {
	o.t.Helper()
	if got, fault := o.Chain(i, j); !slices.Equal(got, want) || fault != api.OK {
		o.t.Errorf("P18.5: Chain(%d, %d) = %v, %d, want %v", i, j, got, fault, want)
	}
}

// TestExamples are those of the chapter.
func TestExamples(t *testing.T) {
	o := ask(t, fork1, ev(1, api.Write, 8, 4), ev(0, api.Read, 8, 4), join1, ev(0, api.Read, 8, 4))
	o.before(0, 1, true)
	o.before(1, 2, false)
	o.before(2, 1, false)
	o.before(1, 4, true)
	o.clock(1, api.Tick{G: 0, T: 1}, api.Tick{G: 1, T: 1})
	o.clock(2, api.Tick{G: 0, T: 2})
	o.clock(3, api.Tick{G: 0, T: 3}, api.Tick{G: 1, T: 1})
	o.into(3, 1, 2)
	o.into(0)
	o.chain(1, 4, 1, 3, 4)
	o.chain(0, 4, 0, 2, 3, 4)
	o.chain(1, 2)
	o.chain(2, 2, 2)

	o = ask(t, fork1, ev(0, api.Acquire, 5, 0), ev(0, api.Release, 5, 0), ev(1, api.Acquire, 5, 0), ev(1, api.Release, 5, 0), ev(0, api.RAcquire, 5, 0))
	o.before(2, 3, true)
	o.before(4, 5, true)
	o.before(0, 3, true)
	o.into(3, 2)
	o.into(5, 4)

	o = ask(t, ev(0, api.Make, 7, 0), fork1, ev(0, api.Send, 7, 0), ev(1, api.Recv, 7, 1), ev(0, api.Ack, 7, 0))
	o.before(2, 3, true)
	o.before(3, 4, true)
	o = ask(t, ev(0, api.Make, 7, 1), fork1, ev(0, api.Send, 7, 0), ev(1, api.Recv, 7, 1), ev(0, api.Send, 7, 0))
	o.before(3, 4, true)

	o = ask(t, fork1, ev(1, api.Store, 3, 0), ev(0, api.Load, 3, 0), ev(1, api.Load, 3, 0), ev(0, api.Store, 3, 0))
	o.before(1, 2, true)
	o.before(2, 3, false)
	o.before(1, 4, true)
	o.before(3, 4, false)
}

// TestNoEvents: the trace without events has an order, which has none.
func TestNoEvents(t *testing.T) {
	for _, none := range [][]api.Event{nil, {}} {
		o := build(t, none)
		if o.Len() != 0 {
			t.Errorf("P18.1: Len = %d", o.Len())
		}
		noSuch(t, o, 0, -1, 1)
	}
}

// noSuch fails if a call takes an event that is not there, alone or with one that is.
func noSuch(t *testing.T, o *order.Order, events ...int) {
	t.Helper()
	for _, i := range events {
		if c, fault := o.Clock(i); len(c) != 0 || fault != api.ErrEvent {
			t.Errorf("P18.2: Clock(%d) = %v, %d", i, c, fault)
		}
		if l, fault := o.Into(i); len(l) != 0 || fault != api.ErrEvent {
			t.Errorf("P18.4: Into(%d) = %v, %d", i, l, fault)
		}
		for _, other := range append([]int{0, 1, o.Len() - 1}, events...) {
			for _, two := range [][2]int{{i, other}, {other, i}} {
				if is, fault := o.Before(two[0], two[1]); is || fault != api.ErrEvent {
					t.Errorf("P18.3: Before(%d, %d) = %t, %d", two[0], two[1], is, fault)
				}
				if l, fault := o.Chain(two[0], two[1]); len(l) != 0 || fault != api.ErrEvent {
					t.Errorf("P18.5: Chain(%d, %d) = %v, %d", two[0], two[1], l, fault)
				}
			}
		}
	}
}

// TestNoSuchEvent: events just outside the trace, on either side, and far outside.
func TestNoSuchEvent(t *testing.T) {
	for n := 1; n < 6; n++ {
		o := build(t, slices.Repeat([]api.Event{mark}, n))
		noSuch(t, o, -1, n, n+1, -n, 9, math.MaxInt, math.MinInt, 1<<32, -1<<32, 1<<16, 1<<32+n-1)
		for i := range n {
			if _, fault := o.Clock(i); fault != api.OK {
				t.Errorf("P18.2: of %d events: Clock(%d): %d", n, i, fault)
			}
		}
	}
}

// TestSteps: what each sort leaves behind for later events, and what it does not. The goroutines 0, 1 and
// 2 do something ahead of it that nothing else orders.
func TestSteps(t *testing.T) {
	const lower, keep, raise, room = 1, 0, 2, 3
	for _, x := range []struct {
		name    string
		run     []api.Event // behind two Forks
		yes, no [][2]int    // places in it
	}{
		{"a Release for both sorts of taking, an Acquire for none", []api.Event{
			ev(1, api.Acquire, 5, 0), ev(1, api.Release, 5, 0), ev(2, api.RAcquire, 5, 0), ev(0, api.RAcquire, 5, 0)},
			[][2]int{{1, 2}, {1, 3}, {0, 3}}, [][2]int{{2, 3}}},
		{"an RRelease for a writer, not for readers", []api.Event{
			ev(1, api.RAcquire, 5, 0), ev(1, api.RRelease, 5, 0), ev(2, api.RAcquire, 5, 0), ev(2, api.RRelease, 5, 0), ev(0, api.Acquire, 5, 0)},
			[][2]int{{1, 4}, {3, 4}}, [][2]int{{1, 2}, {1, 3}}},
		{"an earlier Release for a reader, though one read between", []api.Event{
			ev(1, api.Acquire, 5, 0), ev(1, api.Release, 5, 0), ev(2, api.RAcquire, 5, 0), ev(2, api.RRelease, 5, 0), ev(0, api.RAcquire, 5, 0)},
			[][2]int{{1, 4}}, [][2]int{{2, 4}, {3, 4}}},
		{"a reader that gives back while another reads on", []api.Event{
			ev(1, api.RAcquire, 5, 0), ev(2, api.RAcquire, 5, 0), ev(1, api.RRelease, 5, 0), ev(2, api.RRelease, 5, 0), ev(1, api.Acquire, 5, 0)},
			[][2]int{{3, 4}}, [][2]int{{2, 3}, {0, 1}}},
		{"locks of unlike numbers", []api.Event{
			ev(1, api.Acquire, 5, 0), ev(1, api.Release, 5, 0), ev(2, api.Acquire, 6, 0), ev(2, api.Release, 6, 0), ev(0, api.Acquire, 6, 0)},
			[][2]int{{3, 4}}, [][2]int{{1, 2}, {1, 4}}},
		{"a Make leaves nothing behind", []api.Event{
			ev(1, api.Make, 5, 1), ev(2, api.Send, 5, 0), ev(0, api.Recv, 5, 1)},
			[][2]int{{1, 2}}, [][2]int{{0, 1}, {0, 2}}},
		{"each value has its own Send", []api.Event{
			ev(0, api.Make, 5, room), ev(1, api.Send, 5, 0), ev(2, api.Send, 5, 0), ev(0, api.Recv, 5, 1), ev(0, api.Recv, 5, 1)},
			[][2]int{{1, 3}, {2, 4}}, [][2]int{{2, 3}, {1, 2}}},
		{"each Send has its own room", []api.Event{
			ev(0, api.Make, 5, 2), ev(0, api.Send, 5, 0), ev(0, api.Send, 5, 0), ev(1, api.Recv, 5, 1), ev(2, api.Recv, 5, 1), ev(0, api.Send, 5, 0), ev(0, api.Send, 5, 0)},
			[][2]int{{3, 5}, {4, 6}}, [][2]int{{4, 5}, {3, 4}}},
		{"room that was there from the beginning comes from nobody", []api.Event{
			ev(0, api.Make, 5, 2), ev(0, api.Send, 5, 0), ev(1, api.Recv, 5, 1), ev(2, api.Send, 5, 0), ev(2, api.Send, 5, 0)},
			[][2]int{{2, 4}}, [][2]int{{2, 3}}},
		{"without room a Send waits for its Ack alone, each for its own", []api.Event{
			ev(0, api.Make, 5, 0), ev(1, api.Send, 5, 0), ev(0, api.Recv, 5, 1), ev(2, api.Send, 5, 0), ev(0, api.Recv, 5, 1), ev(2, api.Ack, 5, 0), ev(1, api.Ack, 5, 0)},
			[][2]int{{1, 2}, {3, 4}, {2, 6}, {4, 5}}, [][2]int{{2, 3}, {4, 6}, {5, 6}}},
		{"an Ack leaves nothing behind", []api.Event{
			ev(0, api.Make, 5, 0), ev(1, api.Send, 5, 0), ev(0, api.Recv, 5, 1), ev(1, api.Ack, 5, 0), ev(2, api.Send, 5, 0), ev(0, api.Recv, 5, 1), ev(2, api.Ack, 5, 0)},
			nil, [][2]int{{3, 4}, {3, 5}, {3, 6}}},
		{"a Close for those that find nothing, not for values", []api.Event{
			ev(0, api.Make, 5, 1), ev(0, api.Send, 5, 0), ev(1, api.Close, 5, 0), ev(2, api.Recv, 5, 1), ev(2, api.Recv, 5, 0), ev(0, api.Recv, 5, 0)},
			[][2]int{{2, 4}, {2, 5}}, [][2]int{{2, 3}, {3, 5}, {4, 5}}},
		{"an Add that lowers, for each later Wait; no other Add", []api.Event{
			ev(0, api.Add, 5, 2*raise), ev(1, api.Add, 5, lower), ev(2, api.Add, 5, raise), ev(2, api.Add, 5, keep), ev(1, api.Add, 5, lower), ev(1, api.Add, 5, lower), ev(0, api.Wait, 5, 0)},
			[][2]int{{1, 6}, {4, 6}, {5, 6}}, [][2]int{{2, 6}, {3, 6}, {0, 1}}},
		{"of whatever round", []api.Event{
			ev(0, api.Add, 5, raise), ev(1, api.Add, 5, lower), ev(0, api.Add, 5, raise), ev(0, api.Add, 5, lower), ev(2, api.Wait, 5, 0)},
			[][2]int{{1, 4}, {3, 4}}, nil},
		{"a Wait leaves nothing behind", []api.Event{
			ev(1, api.Wait, 5, 0), ev(2, api.Wait, 5, 0), ev(0, api.Add, 5, raise)}, nil, [][2]int{{0, 1}, {0, 2}}},
		{"the Once that ran; not those that did not", []api.Event{
			ev(1, api.Once, 5, 1), ev(2, api.Once, 5, 0), ev(0, api.Once, 5, 0)}, [][2]int{{0, 1}, {0, 2}}, [][2]int{{1, 2}}},
		{"all Stores and Swaps for each Load and Swap; a Store takes nothing", []api.Event{
			ev(1, api.Store, 5, 0), ev(2, api.Store, 5, 0), ev(0, api.Load, 5, 0), ev(1, api.Swap, 5, 0), ev(2, api.Store, 5, 0), ev(0, api.Swap, 5, 0)},
			[][2]int{{0, 2}, {1, 2}, {1, 3}, {3, 5}, {4, 5}}, [][2]int{{0, 1}, {2, 3}, {3, 4}}},
		{"atomics of unlike numbers", []api.Event{ev(1, api.Store, 5, 0), ev(2, api.Load, 6, 0), ev(0, api.Swap, 7, 0)}, nil, [][2]int{{0, 1}, {0, 2}}},
		{"reads, writes, allocations and marks leave nothing behind", []api.Event{
			ev(1, api.Write, 5, 1), ev(2, api.Read, 5, 1), ev(0, api.Alloc, 5, 1), ev(1, api.Free, 5, 1), ev(2, api.Alloc, 5, 1), ev(0, api.Mark, 5, 1), ev(1, api.Mark, 5, 1)},
			nil, [][2]int{{0, 1}, {0, 2}, {2, 3}, {3, 4}, {1, 3}, {2, 4}, {5, 6}}},
		{"the last event of one that is joined, whatever it is; what it knew; nothing of those that were not joined", []api.Event{
			ev(1, api.Store, 5, 0), ev(2, api.Load, 5, 0), ev(2, api.Read, 5, 1), ev(1, api.Mark, 5, 0), ev(0, api.Join, 0, 2)},
			[][2]int{{2, 4}, {0, 4}}, [][2]int{{3, 4}}},
		{"the Fork of one that did nothing", []api.Event{ev(1, api.Fork, 0, 3), ev(1, api.Mark, 0, 0), ev(2, api.Join, 0, 3)}, [][2]int{{0, 2}}, [][2]int{{1, 2}}},
		{"the Fork of another one's first event, not what its parent does later", []api.Event{ev(1, api.Fork, 0, 3), ev(1, api.Mark, 0, 0), ev(3, api.Mark, 0, 0), ev(2, api.Mark, 0, 0)}, [][2]int{{0, 2}}, [][2]int{{1, 2}, {2, 3}, {0, 3}}},
		{"goroutine 0 is joined", []api.Event{ev(0, api.Mark, 0, 0), ev(1, api.Join, 0, 0), ev(2, api.Mark, 0, 0)}, [][2]int{{0, 1}}, [][2]int{{0, 2}}},
		{"the sorts have nothing to do with each other", []api.Event{
			ev(1, api.Acquire, 5, 0), ev(1, api.Release, 5, 0), ev(1, api.Store, 5, 0), ev(1, api.Once, 5, 1), ev(1, api.Add, 5, raise), ev(1, api.Add, 5, lower), ev(1, api.Make, 5, 1), ev(1, api.Send, 5, 0), ev(1, api.Write, 5, 1), ev(2, api.Mark, 5, 0), ev(0, api.Read, 5, 1)},
			nil, [][2]int{{8, 9}, {8, 10}, {1, 9}, {7, 10}}},
	} {
		o := ask(t, append([]api.Event{fork1, fork2}, x.run...)...)
		for want, pairs := range map[bool][][2]int{true: x.yes, false: x.no} {
			for _, two := range pairs {
				if is, _ := o.Before(two[0]+2, two[1]+2); is != want {
					t.Errorf("P18.3: %s: Before of %d and %d is %t", x.name, two[0], two[1], is)
				}
			}
		}
	}
}

// TestSortsApart: each sort alone takes what was left behind under its number; the others don't.
func TestSortsApart(t *testing.T) {
	leave := []api.Event{ev(0, api.Release, 5, 0), ev(0, api.Send, 5, 0), ev(0, api.Add, 5, 1), ev(0, api.Once, 5, 1), ev(0, api.Store, 5, 0)}
	take := []api.Event{ev(1, api.RAcquire, 5, 0), ev(1, api.Recv, 5, 1), ev(1, api.Wait, 5, 0), ev(1, api.Once, 5, 0), ev(1, api.Load, 5, 0)}
	first := []api.Event{fork1, ev(0, api.Acquire, 5, 0), ev(0, api.Make, 5, 1), ev(0, api.Add, 5, 2)}
	for l := range leave {
		others := slices.Delete(slices.Clone(leave), l, l+1)
		run := slices.Concat(first, others, []api.Event{leave[l], take[l]})
		o := ask(t, run...)
		at := len(run) - 2
		o.before(at, at+1, true)
		o = ask(t, slices.Concat(first, leave[:l], leave[l:l+1], take[l:l+1], leave[l+1:], take[:l], take[l+1:])...)
		o.before(len(first)+l, len(first)+l+1, true)
		if l < len(leave)-1 { // what comes behind is not known there, but at the end
			o.before(len(first)+l+2, len(first)+l+1, false)
			o.before(len(first)+l+2, o.Len()-1, true)
		}
	}
}

// TestRightBefore: of several that happen before an event, those right before it.
func TestRightBefore(t *testing.T) {
	o := ask(t, fork1, fork2, fork3, // 0, 1, 2
		ev(1, api.Store, 5, 0), ev(2, api.Store, 5, 0), ev(3, api.Swap, 5, 0), ev(1, api.Store, 5, 0), ev(2, api.Mark, 0, 0), ev(0, api.Load, 5, 0), // 3 to 8
		ev(0, api.Load, 5, 0), ev(2, api.Load, 5, 0)) // 9, 10
	o.into(0)
	o.into(1, 0)
	o.into(3, 0)
	o.into(4, 1)
	o.into(5, 2, 3, 4) // its Fork knows nothing of the Stores, nor they of each other
	o.into(6, 3)
	o.into(8, 5, 6) // 2, the one ahead of it, happens before 5
	o.into(9, 8)    // nothing new
	o.into(10, 5, 6, 7)

	o.chain(3, 8, 3, 6, 8) // over 5, too, but 6 is greater
	o.chain(4, 8, 4, 5, 8)
	o.chain(2, 8, 2, 5, 8)
	o.chain(0, 8, 0, 3, 6, 8)
	o.chain(1, 8, 1, 4, 5, 8) // over 2, too
	o.chain(0, 10, 0, 1, 4, 7, 10)
	o.chain(5, 9, 5, 8, 9)
	o.chain(7, 9)
	o.chain(8, 7)
	o.chain(10, 10, 10)
	o.chain(0, 0, 0)
}
