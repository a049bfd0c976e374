package check_test

import (
	"slices"
	"testing"

	"hindsight/api"
)

// scene is a run, and an event that can't come behind it, with all reasons that apply to it.
type scene struct {
	run     []api.Event
	e       api.Event
	reasons []int
}

func join(g int) api.Event { return ev(0, api.Join, 0, uint64(g)) }

// waiting are runs at whose end goroutine 1 waits for an Ack of the channel 3.
var waiting = []api.Event{fork1, fork2, ev(0, api.Make, 3, 0), ev(1, api.Send, 3, 0)}

// behind is a run and some events more.
func behind(run []api.Event, more ...api.Event) []api.Event {
	return append(slices.Clip(run), more...)
}

// alone has a scene for each reason that applies alone.
var alone = []scene{
	{nil, ev(1, api.Mark, 0, 0), []int{1}},
	{[]api.Event{fork1, join1}, ev(1, api.Mark, 0, 0), []int{2}},
	{waiting, ev(1, api.Mark, 0, 0), []int{3}},
	{[]api.Event{ev(0, api.Acquire, 7, 0)}, ev(0, api.Acquire, 7, 0), []int{4}},
	{nil, ev(0, api.Release, 7, 0), []int{5}},
	{[]api.Event{ev(0, api.Acquire, 7, 0)}, ev(0, api.RAcquire, 7, 0), []int{6}},
	{nil, ev(0, api.RRelease, 7, 0), []int{7}},
	{[]api.Event{fork1}, fork1, []int{8}},
	{nil, join1, []int{9}},
	{[]api.Event{fork1, join1}, join1, []int{10}},
	{nil, join(0), []int{11}},
	{waiting, join1, []int{12}},
	{[]api.Event{ev(0, api.Make, 3, 0)}, ev(0, api.Make, 3, 0), []int{13}},
	{nil, ev(0, api.Send, 3, 0), []int{14}},
	{[]api.Event{ev(0, api.Make, 3, 0), ev(0, api.Close, 3, 0)}, ev(0, api.Close, 3, 0), []int{15}},
	{[]api.Event{ev(0, api.Make, 3, 1), ev(0, api.Send, 3, 0)}, ev(0, api.Send, 3, 0), []int{16}},
	{[]api.Event{ev(0, api.Make, 3, 1)}, ev(0, api.Recv, 3, 1), []int{17}},
	{[]api.Event{ev(0, api.Make, 3, 1)}, ev(0, api.Recv, 3, 0), []int{18}},
	{[]api.Event{ev(0, api.Make, 3, 1), ev(0, api.Send, 3, 0), ev(0, api.Close, 3, 0)}, ev(0, api.Recv, 3, 0), []int{19}},
	{waiting, ev(0, api.Close, 3, 0), []int{20}},
	{[]api.Event{ev(0, api.Make, 3, 0)}, ev(0, api.Ack, 3, 0), []int{21}},
	{waiting, ev(1, api.Ack, 3, 0), []int{22}},
	{nil, ev(0, api.Add, 4, 1), []int{23}},
	{[]api.Event{ev(0, api.Add, 4, 2)}, ev(0, api.Wait, 4, 0), []int{24}},
	{[]api.Event{ev(0, api.Once, 5, 1)}, ev(0, api.Once, 5, 1), []int{25}},
	{nil, ev(0, api.Once, 5, 0), []int{26}},
	{[]api.Event{ev(0, api.Alloc, 100, 8)}, ev(0, api.Alloc, 107, 1), []int{27}},
	{nil, ev(0, api.Free, 100, 8), []int{28}},
}

// several has scenes in which two or more reasons apply.
var several = []scene{
	{nil, ev(1, api.Release, 7, 0), []int{1, 5}},
	{nil, ev(1, api.Join, 0, 1), []int{1, 9, 11}},
	{nil, ev(1, api.Ack, 3, 0), []int{1, 14, 21}},
	{[]api.Event{ev(0, api.Acquire, 7, 0)}, ev(1, api.Acquire, 7, 0), []int{1, 4}},
	{[]api.Event{fork1, ev(1, api.Acquire, 7, 0), join1}, ev(1, api.Acquire, 7, 0), []int{2, 4}},
	{[]api.Event{fork1, join1}, ev(1, api.Join, 0, 1), []int{2, 10, 11}},
	{[]api.Event{fork1, join1}, ev(1, api.Fork, 0, 1), []int{2, 8}},
	{[]api.Event{fork1, join1}, ev(1, api.Once, 5, 0), []int{2, 26}},
	{[]api.Event{fork1, ev(1, api.Join, 0, 0)}, ev(0, api.Free, 5, 1), []int{2, 28}},
	{waiting, ev(1, api.Join, 0, 1), []int{3, 11, 12}},
	{waiting, ev(1, api.Join, 0, 5), []int{3, 9}},
	{waiting, ev(1, api.Ack, 4, 0), []int{3, 14, 22}},
	{waiting, ev(1, api.Recv, 3, 0), []int{3, 18, 19}},
	{waiting, ev(1, api.Close, 3, 0), []int{3, 20}},
	{waiting, ev(1, api.Make, 3, 0), []int{3, 13}},
	{waiting, ev(1, api.Send, 4, 0), []int{3, 14}},
	{waiting, ev(1, api.Release, 3, 0), []int{3, 5}},
	{behind(waiting, ev(2, api.Send, 3, 0)), ev(1, api.Join, 0, 2), []int{3, 12}},
	{nil, ev(0, api.Recv, 3, 1), []int{14, 17}},
	{nil, ev(0, api.Recv, 3, 0), []int{14, 18}},
	{nil, ev(0, api.Ack, 3, 0), []int{14, 21}},
	{[]api.Event{ev(0, api.Make, 3, 1), ev(0, api.Send, 3, 0), ev(0, api.Close, 3, 0)}, ev(0, api.Send, 3, 0), []int{15, 16}},
	{[]api.Event{ev(0, api.Make, 3, 1), ev(0, api.Send, 3, 0)}, ev(0, api.Recv, 3, 0), []int{18, 19}},
}

// play holds a scene: that the reasons apply, that the first one is answered, and that nothing changed.
func play(t *testing.T, s scene) {
	t.Helper()
	p := newPair(t, s.run...)
	if got := p.plain.applying(s.e); !slices.Equal(got, s.reasons) {
		t.Fatalf("behind %v to %v apply %v, and not %v", s.run, s.e, got, s.reasons)
	}
	for range 2 {
		p.refuses(s.e, s.reasons[0])
		p.look(6)
	}
	if place, reason := run(t, behind(s.run, s.e, mark)); place != len(s.run) || reason != s.reasons[0] {
		t.Errorf("P16.4: Run = %d, %d, want %d, %d", place, reason, len(s.run), s.reasons[0])
	}
}

func TestEachReasonAlone(t *testing.T) {
	if len(alone) != 28 {
		t.Fatalf("%d scenes", len(alone))
	}
	for k, s := range alone {
		if s.reasons[0] != k+1 {
			t.Fatalf("the scene %d is one of the reason %d", k, s.reasons[0])
		}
		play(t, s)
	}
}

func TestSeveralReasons(t *testing.T) {
	for _, s := range several {
		play(t, s)
	}
}

// TestWaiting: what a goroutine may do that waits for an Ack, and what others may do with it.
func TestWaiting(t *testing.T) {
	ack1 := ev(1, api.Ack, 3, 0)
	p := newPair(t, waiting...)
	for _, e := range []api.Event{
		ev(1, api.Mark, 0, 0), ev(1, api.Read, 8, 1), ev(1, api.Recv, 3, 1), ev(1, api.Send, 3, 0),
		ev(1, api.Load, 3, 0), ev(1, api.Wait, 9, 0), ev(1, api.Acquire, 3, 0), ev(1, api.Fork, 0, 9), ev(1, api.Ack, 2, 0),
	} {
		p.refuses(e, 3)
	}
	p.refuses(ack1, 22)
	p.takes(ev(2, api.Send, 3, 0))
	p.takes(ev(0, api.Recv, 3, 1)) // the value of goroutine 1
	p.refuses(ev(2, api.Ack, 3, 0), 22)
	p.refuses(ev(1, api.Mark, 0, 0), 3)
	p.refuses(join1, 12)
	p.takes(ack1)
	p.refuses(ack1, 21)
	p.takes(ev(1, api.Recv, 3, 1)) // that of goroutine 2
	p.takes(ev(0, api.Close, 3, 0))
	p.refuses(ev(1, api.Send, 3, 0), 15)
	p.takes(ev(0, api.Recv, 3, 0))
	p.takes(join1)
	p.refuses(join(2), 12)
	p.takes(ev(2, api.Ack, 3, 0))
	p.takes(join(2))
	p.look(3)
}

// TestAcksOutOfTurn: the values are received one after the other, the Acks may come in any order.
func TestAcksOutOfTurn(t *testing.T) {
	p := newPair(t, fork1, fork2, ev(0, api.Fork, 0, 3), ev(0, api.Make, 3, 0))
	for g := 1; g <= 3; g++ {
		p.takes(ev(g, api.Send, 3, 0))
	}
	p.takes(ev(0, api.Recv, 3, 1))
	p.takes(ev(0, api.Recv, 3, 1))
	p.refuses(ev(3, api.Ack, 3, 0), 22)
	p.takes(ev(2, api.Ack, 3, 0))
	p.takes(ev(2, api.Send, 3, 0)) // the fourth
	p.takes(ev(0, api.Recv, 3, 1))
	p.refuses(ev(2, api.Ack, 3, 0), 22)
	p.takes(ev(3, api.Ack, 3, 0))
	p.takes(ev(1, api.Ack, 3, 0))
	p.takes(ev(0, api.Recv, 3, 1))
	p.takes(ev(2, api.Ack, 3, 0))
	p.refuses(ev(0, api.Recv, 3, 1), 17)
}

// TestRoom: channels of each small room, and of the greatest, filled and emptied; with room nobody waits.
func TestRoom(t *testing.T) {
	for _, room := range []int{1, 2, 3, 7} {
		p := newPair(t, ev(0, api.Make, 3, uint64(room)))
		for range room {
			p.takes(ev(0, api.Send, 3, 0))
			p.refuses(ev(0, api.Ack, 3, 0), 21)
		}
		p.refuses(ev(0, api.Send, 3, 0), 16)
		p.takes(ev(0, api.Recv, 3, 1))
		p.takes(ev(0, api.Send, 3, 0))
		p.refuses(ev(0, api.Send, 3, 0), 16)
		p.takes(ev(0, api.Close, 3, 0)) // with values in it
		for range room {
			p.refuses(ev(0, api.Recv, 3, 0), 19)
			p.refuses(ev(0, api.Send, 3, 0), 15)
			p.takes(ev(0, api.Recv, 3, 1))
		}
		p.refuses(ev(0, api.Recv, 3, 1), 17)
		p.takes(ev(0, api.Recv, 3, 0))
		p.takes(ev(0, api.Recv, 3, 0))
		p.refuses(ev(0, api.Make, 3, uint64(room)), 13)
	}
}

// TestCounter: both ends of a counter's range, and the greatest steps.
func TestCounter(t *testing.T) {
	add := func(n int64) api.Event {
		if n < 0 {
			return ev(0, api.Add, 4, uint64(-2*n-1))
		}
		return ev(0, api.Add, 4, uint64(2*n))
	}
	const most = 2147483647
	wait := ev(0, api.Wait, 4, 0)
	p := newPair(t, wait, add(0), wait)
	p.refuses(add(-1), 23)
	p.refuses(add(-most), 23)
	p.takes(add(most))
	p.refuses(add(1), 23)
	p.refuses(add(most), 23)
	p.refuses(wait, 24)
	p.takes(add(0))
	p.takes(add(-1))
	p.refuses(add(2), 23)
	p.refuses(add(-most), 23)
	p.takes(add(1))
	p.takes(add(-most))
	p.takes(wait)
	p.refuses(add(-1), 23)
	p.takes(add(1))
	p.refuses(add(most), 23)
	p.takes(add(most - 1))
	p.takes(add(1 - most))
	p.refuses(wait, 24)
	p.takes(add(-1))
	p.takes(wait)
	p.takes(ev(0, api.Wait, 9, 0))
}

// TestReaders: a lock that several hold to read, some of them more than once.
func TestReaders(t *testing.T) {
	p := newPair(t, fork1)
	for range 3 {
		p.takes(ev(0, api.RAcquire, 7, 0))
		p.takes(ev(1, api.RAcquire, 7, 0))
	}
	p.takes(ev(1, api.RAcquire, 7, 0))
	for range 3 {
		p.look(2)
		p.refuses(ev(1, api.Acquire, 7, 0), 4)
		p.refuses(ev(0, api.Release, 7, 0), 5)
		p.takes(ev(0, api.RRelease, 7, 0))
	}
	p.refuses(ev(0, api.RRelease, 7, 0), 7)
	for range 4 {
		p.look(2)
		p.refuses(ev(0, api.Acquire, 7, 0), 4)
		p.takes(ev(1, api.RRelease, 7, 0))
	}
	p.refuses(ev(1, api.RRelease, 7, 0), 7)
	p.takes(ev(1, api.Acquire, 7, 0))
	p.refuses(ev(1, api.RRelease, 7, 0), 7)
	p.refuses(ev(0, api.RRelease, 7, 0), 7)
	p.refuses(ev(0, api.Release, 7, 0), 5)
	p.look(2)
}

// TestHeldBeyondTheEnd: a goroutine that was joined holds what it held.
func TestHeldBeyondTheEnd(t *testing.T) {
	p := newPair(t, fork1, ev(1, api.Acquire, 7, 0), ev(1, api.RAcquire, 2, 0), join1)
	p.look(2)
	if locks, toWrite := p.checker.Held(1); !slices.Equal(locks, []uint64{2, 7}) || !slices.Equal(toWrite, []bool{false, true}) {
		t.Errorf("P16.3: Held(1) = %v, %v", locks, toWrite)
	}
	p.refuses(ev(0, api.Acquire, 7, 0), 4)
	p.refuses(ev(0, api.RAcquire, 7, 0), 6)
	p.refuses(ev(0, api.Release, 7, 0), 5)
	p.takes(ev(0, api.RAcquire, 2, 0))
	p.takes(ev(0, api.RRelease, 2, 0))
	p.refuses(ev(0, api.Acquire, 2, 0), 4)
	p.look(2)
}

// TestLastGoroutine: others may join goroutine 0, and it can't come back.
func TestLastGoroutine(t *testing.T) {
	p := newPair(t, fork1, ev(1, api.Join, 0, 0))
	if got := p.checker.Alive(); !slices.Equal(got, []int{1}) {
		t.Errorf("P16.3: Alive = %v", got)
	}
	p.refuses(mark, 2)
	p.refuses(ev(1, api.Join, 0, 0), 10)
	p.refuses(ev(1, api.Join, 0, 1), 11)
	p.takes(ev(1, api.Fork, 0, api.MaxG-1))
	p.takes(ev(api.MaxG-1, api.Join, 0, 1))
	p.refuses(ev(api.MaxG-1, api.Fork, 0, 1), 8)
	if got := p.checker.Alive(); !slices.Equal(got, []int{api.MaxG - 1}) {
		t.Errorf("P16.3: Alive = %v", got)
	}
	p.look(3)
}
