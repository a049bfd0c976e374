package check_test

import (
	"math/rand"
	"runtime"
	"slices"
	"strings"
	"testing"

	"hindsight/api"
	"hindsight/check"
	"hindsight/samples"
)

// TestNothingIsChanged: neither the trace that is handed in nor the room behind it, nor an event's stack.
func TestNothingIsChanged(t *testing.T) {
	r := rand.New(rand.NewSource(171))
	for range 300 {
		trace, _ := someRun(r, 40, 3)
		for k := range trace {
			trace[k].Stack = append(samples.Stack(r.Intn), "spare", "room")
		}
		whole := slices.Concat(trace, []api.Event{ev(7, 7, 7, 7), ev(8, 8, 8, 8)})
		was := make([]api.Event, len(whole))
		for k, e := range whole {
			was[k] = e
			was[k].Stack = slices.Clone(e.Stack)
			if len(e.Stack) > 2 {
				whole[k].Stack = e.Stack[:len(e.Stack)-2]
			}
		}
		check.Run(whole[:len(trace)])
		c := check.New()
		for _, e := range whole {
			c.Add(e)
		}
		for k, e := range whole {
			if e.G != was[k].G || e.Kind != was[k].Kind || e.Obj != was[k].Obj || e.Arg != was[k].Arg {
				t.Fatalf("P16.9: the event %d became %v, was %v", k, e, was[k])
			}
			if n := len(was[k].Stack); n > 2 && !slices.Equal(e.Stack[:n], was[k].Stack) {
				t.Fatalf("P16.9: the stack of the event %d became %q, was %q", k, e.Stack[:n], was[k].Stack)
			}
		}
	}
}

// TestTraceIsNotKept: what becomes of a trace behind the call is nothing to a checker.
func TestTraceIsNotKept(t *testing.T) {
	trace := []api.Event{fork1, ev(1, api.Acquire, 7, 0), ev(1, api.RAcquire, 3, 0), ev(0, api.Make, 3, 1), ev(0, api.Alloc, 5, 5)}
	p := newPair(t)
	for k := range trace {
		p.takes(trace[k])
		trace[k] = ev(9, 9, 9, 9)
	}
	p.look(3)
	p.refuses(ev(0, api.Acquire, 7, 0), 4)
	p.takes(ev(0, api.Send, 3, 0))
	p.refuses(ev(0, api.Alloc, 9, 1), 27)
}

// TestAnswersAreNewMemory: what is done to an answer is seen in no other one, and not in the checker.
func TestAnswersAreNewMemory(t *testing.T) {
	r := rand.New(rand.NewSource(172))
	for range 300 {
		p, kinds := newPair(t, fork1, fork2), focus[1]
		for range 60 {
			p.add(samples.Move(r.Intn, 3, kinds...))
			for g := range 4 {
				locks, toWrite := p.checker.Held(g)
				others, otherTo := p.checker.Held(g)
				wantLocks, wantTo := slices.Clone(others), slices.Clone(otherTo)
				samples.Spoil(locks, 99)
				samples.Spoil(toWrite, true)
				_, _ = append(locks, 99, 99), append(toWrite, true, true)
				if !slices.Equal(others, wantLocks) || !slices.Equal(otherTo, wantTo) {
					t.Fatal("P16.9: two answers of Held have memory in common")
				}
				samples.Spoil(otherTo, false)
			}
			alive, other := p.checker.Alive(), p.checker.Alive()
			want := slices.Clone(other)
			samples.Spoil(alive, 99)
			_ = append(alive, 99, 99)
			if !slices.Equal(other, want) {
				t.Fatal("P16.9: two answers of Alive have memory in common")
			}
			p.look(3)
		}
	}
}

// inUse is how many bytes the program's memory has in use.
func inUse() uint64 {
	runtime.GC()
	var m runtime.MemStats
	runtime.ReadMemStats(&m)
	return m.HeapAlloc
}

// TestStacksAreNotKept: a checker needs no stack for what it says later.
func TestStacksAreNotKept(t *testing.T) {
	c, before := check.New(), inUse()
	for k := range 2000 {
		frame := strings.Repeat("x", api.MaxSite)
		c.Add(api.Event{Kind: api.Acquire, Obj: uint64(k), Stack: []string{frame}})
		c.Add(api.Event{Kind: api.Make, Obj: uint64(k), Stack: []string{frame}})
		c.Add(api.Event{Kind: api.Once, Obj: uint64(k), Arg: 1, Stack: []string{frame}})
		c.Add(api.Event{Kind: api.Alloc, Obj: uint64(k), Arg: 1, Stack: []string{frame}})
		c.Add(api.Event{Kind: api.Fork, Arg: uint64(k + 1), Stack: []string{frame}})
	}
	if grown := int64(inUse()) - int64(before); grown > 20<<20 {
		t.Errorf("P16.9: behind 10000 events %d bytes more are in use", grown)
	}
	runtime.KeepAlive(c)
}

// TestWhatIsGivenBackIsNotKept: locks, counters and memory that nobody has any more take no room.
func TestWhatIsGivenBackIsNotKept(t *testing.T) {
	c, before := newTold(t), inUse()
	for k := range uint64(api.MaxEvents / 8) {
		c.add(ev(0, api.Acquire, k, 0), 0)
		c.add(ev(0, api.Release, k, 0), 0)
		c.add(ev(0, api.RAcquire, last-k, 0), 0)
		c.add(ev(0, api.RRelease, last-k, 0), 0)
		c.add(ev(0, api.Add, k, 2), 0)
		c.add(ev(0, api.Add, k, 1), 0)
		c.add(ev(0, api.Alloc, k<<16, 9), 0)
		c.add(ev(0, api.Free, k<<16, 9), 0)
	}
	if grown := int64(inUse()) - int64(before); grown > 100<<10 {
		t.Errorf("P16.2: behind all that was given back %d bytes more are in use", grown)
	}
	runtime.KeepAlive(c)
}
