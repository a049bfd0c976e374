package check_test

import (
	"math"
	"slices"
	"testing"

	"hindsight/api"
	"hindsight/check"
)

// ev is an event without a stack.
func ev(g, kind int, obj uint64, arg uint64) api.Event {
	return api.Event{G: g, Kind: kind, Obj: obj, Arg: arg}
}

var (
	fork1 = ev(0, api.Fork, 0, 1)
	fork2 = ev(0, api.Fork, 0, 2)
	join1 = ev(0, api.Join, 0, 1)
	mark  = ev(0, api.Mark, 0, 0)
)

const last = math.MaxUint64

// examples are those of the chapter: a trace, and what Run answers.
var examples = []struct {
	trace         []api.Event
	place, reason int
}{
	{nil, -1, 0},
	{[]api.Event{fork1, ev(1, api.Write, 8, 4), join1}, -1, 0},
	{[]api.Event{ev(1, api.Write, 8, 4)}, 0, 1},
	{[]api.Event{fork1, join1, ev(1, api.Read, 8, 1)}, 2, 2},
	{[]api.Event{ev(0, api.Join, 0, 0)}, 0, 11},
	{[]api.Event{ev(0, api.Join, 0, 5)}, 0, 9},
	{[]api.Event{fork1, fork1}, 1, 8},
	{[]api.Event{ev(0, api.Acquire, 7, 0), ev(0, api.Acquire, 7, 0)}, 1, 4},
	{[]api.Event{ev(0, api.Release, 7, 0)}, 0, 5},
	{[]api.Event{ev(0, api.RAcquire, 7, 0), ev(0, api.RAcquire, 7, 0), ev(0, api.RRelease, 7, 0)}, -1, 0},
	{[]api.Event{ev(0, api.Make, 3, 0), ev(0, api.Send, 3, 0), mark}, 2, 3},
	{[]api.Event{ev(0, api.Make, 3, 0), ev(0, api.Send, 3, 0), ev(0, api.Ack, 3, 0)}, 2, 22},
	{[]api.Event{fork1, ev(0, api.Make, 3, 0), ev(0, api.Send, 3, 0), ev(1, api.Recv, 3, 1), ev(0, api.Ack, 3, 0)}, -1, 0},
	{[]api.Event{ev(0, api.Make, 3, 0), fork1, ev(1, api.Send, 3, 0), join1}, 3, 12},
	{[]api.Event{ev(0, api.Make, 3, 1), ev(0, api.Send, 3, 0), ev(0, api.Send, 3, 0)}, 2, 16},
	{[]api.Event{ev(0, api.Make, 3, 1), ev(0, api.Recv, 3, 1)}, 1, 17},
	{[]api.Event{ev(0, api.Make, 3, 1), ev(0, api.Send, 3, 0), ev(0, api.Close, 3, 0), ev(0, api.Recv, 3, 0)}, 3, 19},
	{[]api.Event{ev(0, api.Make, 3, 1), ev(0, api.Recv, 3, 0)}, 1, 18},
	{[]api.Event{ev(0, api.Make, 3, 1), ev(0, api.Close, 3, 0), ev(0, api.Send, 3, 0)}, 2, 15},
	{[]api.Event{ev(0, api.Make, 3, 0), ev(0, api.Make, 3, 1)}, 1, 13},
	{[]api.Event{ev(0, api.Ack, 3, 0)}, 0, 14},
	{[]api.Event{ev(0, api.Add, 4, 2), ev(0, api.Wait, 4, 0)}, 1, 24},
	{[]api.Event{ev(0, api.Add, 4, 1)}, 0, 23},
	{[]api.Event{ev(0, api.Wait, 4, 0)}, -1, 0},
	{[]api.Event{ev(0, api.Once, 5, 0)}, 0, 26},
	{[]api.Event{ev(0, api.Once, 5, 1), ev(0, api.Once, 5, 1)}, 1, 25},
	{[]api.Event{ev(0, api.Alloc, 100, 8), ev(0, api.Alloc, 107, 1)}, 1, 27},
	{[]api.Event{ev(0, api.Alloc, 100, 8), ev(0, api.Free, 100, 4)}, 1, 28},
	{[]api.Event{ev(0, api.Alloc, 100, 8), ev(0, api.Free, 100, 8), ev(0, api.Alloc, 104, 8)}, -1, 0},
	{[]api.Event{ev(0, api.Alloc, last, 1), ev(0, api.Alloc, 0, 1)}, -1, 0},
}

func TestExamples(t *testing.T) {
	for _, x := range examples {
		if place, reason := run(t, x.trace); place != x.place || reason != x.reason {
			t.Errorf("P16.4: Run(%v) = %d, %d, want %d, %d", x.trace, place, reason, x.place, x.reason)
		}
		taken, p := x.trace, newPair(t)
		if x.place >= 0 {
			taken = x.trace[:x.place]
		}
		for _, e := range taken {
			p.takes(e)
			p.look(6)
		}
		if x.place >= 0 {
			p.refuses(x.trace[x.place], x.reason)
			p.look(6)
		}
	}
}

// TestReadTwice is the chapter's second example, which goes on behind what is refused.
func TestReadTwice(t *testing.T) {
	p := newPair(t, ev(0, api.RAcquire, 7, 0), ev(0, api.RAcquire, 7, 0), ev(0, api.RRelease, 7, 0))
	held := func(want ...bool) {
		t.Helper()
		locks, toWrite := p.checker.Held(0)
		if !slices.Equal(locks, []uint64{7}[:len(want)]) || !slices.Equal(toWrite, want) {
			t.Errorf("P16.3: Held(0) = %v, %v, want 7 as %v", locks, toWrite, want)
		}
	}
	held(false)
	p.refuses(ev(0, api.Acquire, 7, 0), 4)
	held(false)
	p.takes(ev(0, api.RRelease, 7, 0))
	held()
	p.takes(ev(0, api.Acquire, 7, 0))
	held(true)
}

// TestSortsAreApart: the same number as a lock, a channel, a wait group, a once, an atomic, an address.
func TestSortsAreApart(t *testing.T) {
	for _, n := range []uint64{0, 3, last} {
		moves := []api.Event{
			ev(0, api.Acquire, n, 0), ev(0, api.Make, n, 1), ev(0, api.Add, n, 2), ev(0, api.Once, n, 1), ev(0, api.Alloc, n, 1),
			ev(0, api.Load, n, 0), ev(0, api.Store, n, 0), ev(0, api.Swap, n, 0), ev(0, api.Read, n, 1), ev(0, api.Write, n, 1), ev(0, api.Mark, n, n),
		}
		undo := []api.Event{ev(0, api.Release, n, 0), ev(0, api.Close, n, 0), ev(0, api.Add, n, 1), ev(0, api.Once, n, 0), ev(0, api.Free, n, 1)}
		refused := []int{4, 13, 0, 25, 27}
		for skip := range 5 { // each of the five alone, and each left out
			alone, others := newPair(t, moves[skip]), newPair(t)
			for k := range moves {
				if k != skip {
					others.takes(moves[k])
				}
			}
			for k := range 5 {
				if k == skip {
					others.refuses(undo[k], []int{5, 14, 23, 26, 28}[k])
				} else {
					alone.refuses(undo[k], []int{5, 14, 23, 26, 28}[k])
				}
			}
			others.takes(moves[skip])
			if refused[skip] != 0 {
				alone.refuses(moves[skip], refused[skip])
			}
			alone.takes(undo[skip])
		}
	}
}

// TestKindsThatAlwaysMayCome: what rule 7 says, of a goroutine that may have events.
func TestKindsThatAlwaysMayCome(t *testing.T) {
	p := newPair(t, ev(0, api.Acquire, 3, 0), ev(0, api.Make, 3, 1), ev(0, api.Alloc, 3, 1), ev(0, api.Close, 3, 0))
	for range 2 {
		for _, kind := range []int{api.Read, api.Write} {
			p.takes(ev(0, kind, 3, 1))
			p.takes(ev(0, kind, last, 1))
			p.takes(ev(0, kind, 77, api.MaxSize))
		}
		for _, kind := range []int{api.Load, api.Store, api.Swap} {
			p.takes(ev(0, kind, 3, 0))
			p.takes(ev(0, kind, last, 0))
		}
		p.takes(ev(0, api.Mark, last, last))
		p.look(2)
	}
}

func TestWhy(t *testing.T) {
	if len(table) != 28 {
		t.Fatalf("the table has %d rows", len(table))
	}
	for k, r := range table {
		if r.reason != k+1 {
			t.Fatalf("the table's row %d has the reason %d", k, r.reason)
		}
		if got := check.Why(r.reason); got != r.words {
			t.Errorf("P16.5: Why(%d) = %q, want %q", r.reason, got, r.words)
		}
	}
	for reason := -300; reason <= 300; reason++ {
		if got := check.Why(reason); (reason < 1 || reason > 28) && got != "" {
			t.Errorf("P16.5: Why(%d) = %q, want nothing", reason, got)
		}
	}
	for _, reason := range []int{math.MinInt, math.MinInt + 1, math.MaxInt, math.MaxInt32, 1<<32 + 1, -1 << 32} {
		if got := check.Why(reason); got != "" {
			t.Errorf("P16.5: Why(%d) = %q, want nothing", reason, got)
		}
	}
}

func TestNew(t *testing.T) {
	c := check.New()
	if got := c.Alive(); !slices.Equal(got, []int{0}) {
		t.Errorf("P16.1: Alive of a new checker = %v", got)
	}
	for _, g := range []int{math.MinInt, -1, 0, 1, api.MaxG - 1, api.MaxG, math.MaxInt} {
		if locks, toWrite := c.Held(g); len(locks)+len(toWrite) != 0 {
			t.Errorf("P16.1: Held(%d) of a new checker = %v, %v", g, locks, toWrite)
		}
	}
	p := newPair(t)
	p.refuses(ev(1, api.Mark, 0, 0), 1)
	p.takes(ev(0, api.Mark, 0, 0))
}

// TestNothing: a checker that is not there, and one that New did not make.
func TestNothing(t *testing.T) {
	var none *check.Checker
	for name, c := range map[string]*check.Checker{"nil": none, "zero": {}} {
		for _, kind := range []int{api.Mark, api.Fork, api.Acquire, api.Make, api.Add, api.Once, api.Alloc, 0, 99} {
			if reason, fault := c.Add(ev(0, kind, 0, 1)); reason != 0 || fault != api.ErrNil {
				t.Errorf("P16.9: Add of a %s checker = %d, %d", name, reason, fault)
			}
		}
		for _, g := range []int{-1, 0, 1} {
			if locks, toWrite := c.Held(g); len(locks)+len(toWrite) != 0 {
				t.Errorf("P16.9: Held of a %s checker = %v, %v", name, locks, toWrite)
			}
		}
		if got := c.Alive(); len(got) != 0 {
			t.Errorf("P16.9: Alive of a %s checker = %v", name, got)
		}
	}
}

// TestApart: two checkers have nothing to do with each other.
func TestApart(t *testing.T) {
	a := newPair(t, fork1, ev(1, api.Acquire, 7, 0), ev(0, api.Make, 3, 0), ev(0, api.Once, 5, 1), ev(0, api.Add, 5, 4), ev(0, api.Alloc, 8, 8))
	b := newPair(t)
	b.look(3)
	b.refuses(ev(1, api.Mark, 0, 0), 1)
	b.refuses(ev(0, api.Send, 3, 0), 14)
	b.refuses(ev(0, api.Once, 5, 0), 26)
	b.refuses(ev(0, api.Free, 8, 8), 28)
	b.takes(ev(0, api.Wait, 5, 0))
	b.takes(ev(0, api.Acquire, 7, 0))
	b.takes(ev(0, api.Alloc, 0, 9))
	a.look(3)
	a.refuses(ev(0, api.Release, 7, 0), 5)
	a.takes(ev(1, api.Release, 7, 0))
}
