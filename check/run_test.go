package check_test

import (
	"math/rand"
	"slices"
	"testing"

	"hindsight/api"
	"hindsight/check"
	"hindsight/samples"
)

// focus are kinds that go well together; all of them, first.
var focus = [][]int{
	samples.Kinds(),
	{api.Acquire, api.Release, api.RAcquire, api.RRelease, api.Fork, api.Join, api.Mark},
	{api.Make, api.Send, api.Ack, api.Recv, api.Close, api.Fork, api.Join},
	{api.Add, api.Wait, api.Once, api.Alloc, api.Free, api.Read, api.Swap},
}

// someRun is a random run of at most so many moves, and of so many goroutines; and the kinds that it was
// made of, of which it may have few.
func someRun(r *rand.Rand, most, goroutines int) ([]api.Event, []int) {
	var p plain
	kinds := focus[r.Intn(len(focus))]
	if r.Intn(3) > 0 {
		p.add(fork1)
	}
	for range r.Intn(most + 1) {
		p.add(samples.Move(r.Intn, goroutines, kinds...))
	}
	return p.trace, kinds
}

// TestRunOfAny: traces of moves that were not looked at, and runs with something changed in them.
func TestRunOfAny(t *testing.T) {
	r := rand.New(rand.NewSource(162))
	seen := map[int]int{}
	for range 40000 {
		goroutines := 2 + r.Intn(3)
		trace, kinds := someRun(r, 90, goroutines)
		switch at := r.Intn(len(trace) + 1); r.Intn(4) {
		case 0:
			trace = slices.Insert(trace, at, samples.Move(r.Intn, goroutines, kinds...))
		case 1:
			trace = slices.Delete(trace, at, min(len(trace), at+1))
		case 2:
			other := r.Intn(len(trace) + 1)
			if at < len(trace) && other < len(trace) {
				trace[at], trace[other] = trace[other], trace[at]
			}
		case 3:
			for range 5 {
				trace = append(trace, samples.Move(r.Intn, goroutines, kinds...))
			}
		}
		_, reason := run(t, trace)
		seen[reason]++
	}
	for reason := range 29 {
		saw(t, seen, 5, reason)
	}
	for _, trace := range [][]api.Event{samples.Trace(r.Intn, 50), samples.Trace(r.Intn, 50)} {
		run(t, trace)
	}
}

// TestBeginnings: each beginning of a run is one, and the longest one ends where Run says.
func TestBeginnings(t *testing.T) {
	r := rand.New(rand.NewSource(163))
	for range 200 {
		trace, kinds := someRun(r, 80, 3)
		for range 3 {
			trace = append(trace, samples.Move(r.Intn, 3, kinds...))
		}
		place, reason := run(t, trace)
		for n := range len(trace) + 1 {
			at, why, fault := check.Run(trace[:n])
			wantAt, wantWhy := -1, 0
			if place >= 0 && n > place {
				wantAt, wantWhy = place, reason
			}
			if at != wantAt || why != wantWhy || fault != api.OK {
				t.Fatalf("P16.6: Run(%v), of the first %d, = %d, %d, %d, want %d, %d", trace, n, at, why, fault, wantAt, wantWhy)
			}
		}
	}
}

// sameState fails if two checkers say unlike things.
func sameState(t *testing.T, promise string, a, b *check.Checker, goroutines int) {
	t.Helper()
	for g := range goroutines {
		locksA, toA := a.Held(g)
		locksB, toB := b.Held(g)
		if !slices.Equal(locksA, locksB) || !slices.Equal(toA, toB) {
			t.Fatalf("%s: Held(%d) = %v, %v, and %v, %v", promise, g, locksA, toA, locksB, toB)
		}
	}
	if x, y := a.Alive(), b.Alive(); !slices.Equal(x, y) {
		t.Fatalf("%s: Alive = %v, and %v", promise, x, y)
	}
}

// TestRefusedChangesNothing: a checker that is asked for much that it refuses says the same as one that
// is not.
func TestRefusedChangesNothing(t *testing.T) {
	r := rand.New(rand.NewSource(164))
	refused := map[int]int{}
	for range 5000 {
		asked, calm, p := check.New(), check.New(), plain{}
		run, kinds := someRun(r, 80, 4)
		for _, e := range run {
			for range 12 {
				other := samples.Move(r.Intn, 4, kinds...)
				if len(p.applying(other)) == 0 {
					other.Kind = 23
				}
				reason, fault := asked.Add(other)
				if reason == 0 && fault == api.OK {
					t.Fatalf("P16.2: behind %v: Add(%v) = 0, 0", p.trace, other)
				}
				refused[reason]++
			}
			p.add(e)
			a, faultA := asked.Add(e)
			b, faultB := calm.Add(e)
			if a != 0 || b != 0 || faultA != api.OK || faultB != api.OK {
				t.Fatalf("P16.6: Add(%v) = %d, %d of the one that was asked, %d, %d of the other", e, a, faultA, b, faultB)
			}
			sameState(t, "P16.6", asked, calm, 5)
		}
	}
	for reason := range 29 {
		saw(t, refused, 20, reason)
	}
}

// TestOneAtATime: what P16.7 says of a run, looked at behind each of its events.
func TestOneAtATime(t *testing.T) {
	r := rand.New(rand.NewSource(165))
	for range 300 {
		trace, _ := someRun(r, 100, 4)
		for n := range len(trace) + 1 {
			p := &plain{trace[:n]}
			for _, e := range trace[:n] {
				sane(t, p, e)
			}
			lives := p.lives()
			for k, a := range lives {
				if slices.ContainsFunc(lives[k+1:], func(b span) bool { return common(a, b) }) {
					t.Fatalf("P16.7: behind %v two allocations have a byte in common", p.trace)
				}
			}
			if n < len(trace) && (!p.begun(trace[n].G) || p.joined(trace[n].G)) {
				t.Fatalf("P16.7: in %v the goroutine of the event %d is not alive", trace, n)
			}
		}
		if place, _, _ := check.Run(trace); place != -1 {
			t.Fatalf("P16.7: %v is no run", trace)
		}
	}
}

// sane looks at the lock, the channel and the wait group that an event of a run may name.
func sane(t *testing.T, p *plain, e api.Event) {
	t.Helper()
	for g := range 4 {
		if g != e.G && p.holdsToWrite(e.G, e.Obj) && (p.holdsToWrite(g, e.Obj) || p.holdsToRead(g, e.Obj)) {
			t.Fatalf("P16.7: behind %v: %d and %d hold the lock %d", p.trace, e.G, g, e.Obj)
		}
	}
	room, _ := p.made(e.Obj)
	if in := p.sends(e.Obj) - p.receives(e.Obj); in < 0 || room >= 1 && in > room {
		t.Fatalf("P16.7: behind %v: the channel %d has %d values in it", p.trace, e.Obj, in)
	}
	if p.counter(e.Obj) < 0 {
		t.Fatalf("P16.7: behind %v: the counter of %d is below 0", p.trace, e.Obj)
	}
}

// names are other numbers for those of a sort, unlike ones for unlike ones.
type names map[uint64]uint64

func (n names) of(old uint64, r *rand.Rand) uint64 {
	if _, is := n[old]; !is {
		fresh := r.Uint64() >> r.Intn(64)
		for _, used := range n {
			if used == fresh {
				return n.of(old, r)
			}
		}
		n[old] = fresh
	}
	return n[old]
}

// renamed is a trace with other numbers for locks, channels, wait groups, onces, atomics, and for the
// goroutines but 0.
func renamed(r *rand.Rand, trace []api.Event) []api.Event {
	locks, channels, groups, onces, atomics := names{}, names{}, names{}, names{}, names{}
	goroutines := r.Perm(api.MaxG - 1)
	g := func(old uint64) uint64 {
		if old == 0 {
			return 0
		}
		return uint64(goroutines[old] + 1)
	}
	trace = slices.Clone(trace)
	for k := range trace {
		e := &trace[k]
		e.G = int(g(uint64(e.G)))
		switch e.Kind {
		case api.Acquire, api.Release, api.RAcquire, api.RRelease:
			e.Obj = locks.of(e.Obj, r)
		case api.Fork, api.Join:
			e.Arg = g(e.Arg)
		case api.Make, api.Send, api.Ack, api.Recv, api.Close:
			e.Obj = channels.of(e.Obj, r)
		case api.Add, api.Wait:
			e.Obj = groups.of(e.Obj, r)
		case api.Once:
			e.Obj = onces.of(e.Obj, r)
		case api.Load, api.Store, api.Swap:
			e.Obj = atomics.of(e.Obj, r)
		}
	}
	return trace
}

func TestNamesAreFree(t *testing.T) {
	r := rand.New(rand.NewSource(166))
	seen := map[int]int{}
	for range 400 {
		trace, kinds := someRun(r, 100, 4)
		for range r.Intn(4) {
			trace = append(trace, samples.Move(r.Intn, 4, kinds...))
		}
		place, reason := run(t, trace)
		seen[reason]++
		other := renamed(r, trace)
		if at, why, fault := check.Run(other); at != place || why != reason || fault != api.OK {
			t.Fatalf("P16.8: Run(%v) = %d, %d, %d; with other names %d, %d", other, at, why, fault, place, reason)
		}
	}
	if len(seen) < 20 {
		t.Errorf("the test met %d reasons only", len(seen))
	}
}

// TestWithoutAccesses: a run is one without its Marks, accesses and atomics, all of them or some.
func TestWithoutAccesses(t *testing.T) {
	r := rand.New(rand.NewSource(167))
	idle := []int{api.Mark, api.Read, api.Write, api.Load, api.Store, api.Swap}
	for range 400 {
		trace, _ := someRun(r, 120, 4)
		some := slices.DeleteFunc(slices.Clone(trace), func(e api.Event) bool { return slices.Contains(idle, e.Kind) && r.Intn(2) == 0 })
		none := slices.DeleteFunc(slices.Clone(trace), func(e api.Event) bool { return slices.Contains(idle, e.Kind) })
		for _, less := range [][]api.Event{some, none} {
			if place, reason, fault := check.Run(less); place != -1 || reason != 0 || fault != api.OK {
				t.Fatalf("P16.8: Run(%v) = %d, %d, %d; it was a run with more Marks, accesses and atomics", less, place, reason, fault)
			}
		}
	}
}
