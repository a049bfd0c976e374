package slice_test

import (
	"slices"
	"testing"
	"time"

	"hindsight/api"
	"hindsight/slice"
)

// inTime fails if a test of a large run took much longer than it needs.
func inTime(t *testing.T, begun time.Time) {
	t.Helper()
	if took := time.Since(begun); took > 150*time.Second {
		t.Errorf("P0.1: it took %v", took)
	}
}

// count are the numbers from one on, ahead of another, each a step above the one ahead of it.
func count(from, to, step int) []int {
	var list []int
	for n := from; n < to; n += step {
		list = append(list, n)
	}
	return list
}

// keepsOf fails if Closed of some places of a run keeps others.
func keepsOf(t *testing.T, run []api.Event, places []int, want []int) {
	t.Helper()
	if got := kept(closed(t, run, chosen(len(run), places...))); !slices.Equal(got, want) {
		t.Errorf("P22.3: of %d events, Closed of %d places keeps %d, want %d", len(run), len(places), len(got), len(want))
	}
}

// TestOneLongChannel: each event of it needs all that are ahead.
func TestOneLongChannel(t *testing.T) {
	defer inTime(t, time.Now())
	const n = api.MaxEvents
	for _, room := range []uint64{1, api.MaxCap} {
		run := []api.Event{create(0, 3, room), mark}
		for len(run) < n {
			run = append(run, send(0, 3), recv(0, 3))
		}
		all := append([]int{0}, count(2, n, 1)...)
		keepsOf(t, run, []int{n - 1}, all)
		keepsOf(t, run, all, all)
		keepsOf(t, run, []int{n / 2, 5}, all[:n/2])
		keepsOf(t, run, []int{0, 1}, []int{0, 1})
	}
}

// TestManyMeetings: a channel without room; each Send needs its Ack.
func TestManyMeetings(t *testing.T) {
	defer inTime(t, time.Now())
	run := []api.Event{create(0, 3, 0), fork(0, 1)}
	for len(run)+4 <= api.MaxEvents {
		run = append(run, send(1, 3), recv(0, 3), ack(1, 3), mark)
	}
	want := slices.DeleteFunc(count(0, len(run), 1), func(k int) bool { return k > 1 && k%4 == 1 })
	keepsOf(t, run, []int{len(run) - 3}, want)
	keepsOf(t, run, []int{len(run) - 4}, want)
	keepsOf(t, run, []int{6}, []int{0, 1, 2, 3, 4, 6, 7, 8})
}

// TestManyWaiters: all goroutines that there are send, one behind the other, and the Acks come at the end.
func TestManyWaiters(t *testing.T) {
	defer inTime(t, time.Now())
	run := []api.Event{create(0, 3, 0)}
	for g := 1; g < api.MaxG; g++ {
		run = append(run, fork(0, g))
	}
	for g := 1; g < api.MaxG; g++ {
		run = append(run, send(g, 3))
	}
	for g := 1; g < api.MaxG; g++ {
		run = append(run, recv(0, 3))
	}
	keepsOf(t, run, []int{api.MaxG + 1}, []int{0, 1, 2, api.MaxG, api.MaxG + 1}) // no Ack is there yet
	for g := api.MaxG - 1; g > 0; g-- {
		run = append(run, ack(g, 3), ev(g, api.Mark, 0, 0))
	}
	marks := len(run) - 2*(api.MaxG-1) + 1
	want := slices.Concat(count(0, marks, 1), count(marks+1, len(run), 2))
	keepsOf(t, run, []int{api.MaxG}, want) // the first Send's Ack is the last
	keepsOf(t, run, []int{len(run) - 2}, want)
	keepsOf(t, run, []int{api.MaxG + 1}, want) // it needs the first Send
}

// TestForksOfForks: as deep as there are goroutines.
func TestForksOfForks(t *testing.T) {
	defer inTime(t, time.Now())
	var run []api.Event
	for g := 1; g < api.MaxG; g++ {
		run = append(run, fork(g-1, g), ev(g-1, api.Mark, 0, 0))
	}
	forks := count(0, len(run), 2)
	keepsOf(t, run, []int{len(run) - 2}, forks)
	keepsOf(t, run, []int{2 * 1000, 2*1000 + 1}, append(slices.Clone(forks[:1001]), 2*1000+1))
	keepsOf(t, run, []int{1}, []int{1})
	run = append(run, write(api.MaxG-1, 8, 8), write(0, 15, 1))
	around(t, run, at(len(run)-2, len(run)-1), append(slices.Clone(forks), len(run)-2, len(run)-1)...)
}

// TestDeepReaders: one goroutine holds a lock to read as often as it can.
func TestDeepReaders(t *testing.T) {
	defer inTime(t, time.Now())
	const n = api.MaxEvents / 2
	run := slices.Concat(slices.Repeat([]api.Event{racquire(0, 5)}, n), slices.Repeat([]api.Event{rrelease(0, 5)}, n))
	for _, k := range []int{0, 1, 1000, n - 1} {
		keepsOf(t, run, []int{k}, []int{k, 2*n - 1 - k})
		keepsOf(t, run, []int{2*n - 1 - k}, []int{k, 2*n - 1 - k})
	}
	keepsOf(t, run, count(0, n, 1), count(0, 2*n, 1))
	keepsOf(t, run[:n+1], []int{n}, []int{n - 1, n})
}

// TestManyThings: all events have numbers of their own.
func TestManyThings(t *testing.T) {
	defer inTime(t, time.Now())
	var run []api.Event
	for k := uint64(0); len(run)+8 <= api.MaxEvents; k++ {
		run = append(run, acquire(0, k), create(0, k, 1), more(0, k, 1), ran(0, k), alloc(0, k*api.MaxLife, api.MaxLife), had(0, k), less(0, k, 1), send(0, k))
	}
	keepsOf(t, run, count(5, len(run), 8), slices.DeleteFunc(count(0, len(run), 1), func(k int) bool { return k%8 != 3 && k%8 != 5 }))
	keepsOf(t, run, []int{len(run) - 1, len(run) - 2}, []int{len(run) - 7, len(run) - 6, len(run) - 2, len(run) - 1})
	keepsOf(t, run, []int{8, 12}, []int{8, 12})
}

// TestManyLives: one life behind the other, of the same bytes and of others.
func TestManyLives(t *testing.T) {
	defer inTime(t, time.Now())
	var run []api.Event
	for k := uint64(0); len(run)+2 <= api.MaxEvents; k++ {
		run = append(run, alloc(0, 8, 1+k%3), free(0, 8, 1+k%3))
	}
	keepsOf(t, run, count(1, len(run), 4), slices.DeleteFunc(count(0, len(run), 1), func(k int) bool { return k%4 > 1 }))
	keepsOf(t, run, []int{len(run) - 2}, []int{len(run) - 2, len(run) - 1})
}

// TestManyAdds: each needs all that are ahead; the Waits between need no Waits.
func TestManyAdds(t *testing.T) {
	defer inTime(t, time.Now())
	var run []api.Event
	for len(run)+4 <= api.MaxEvents {
		run = append(run, more(0, 4, 1), less(0, 4, 1), wait(0, 4), mark)
	}
	adds := slices.DeleteFunc(count(0, len(run), 1), func(k int) bool { return k%4 > 1 })
	keepsOf(t, run, []int{len(run) - 2}, append(slices.Clone(adds), len(run)-2))
	keepsOf(t, run, []int{len(run) - 3}, adds)
	keepsOf(t, run, count(2, len(run), 4), slices.DeleteFunc(count(0, len(run), 1), func(k int) bool { return k%4 == 3 }))
}

// TestFarRace: the first and the last event of a long run that race; goroutines, locks and accesses between.
func TestFarRace(t *testing.T) {
	defer inTime(t, time.Now())
	var run []api.Event
	const gs = 100
	for g := 1; g < gs; g++ {
		run = append(run, fork(0, g))
	}
	run = append(run, write(99, 1000, 8))
	for k := 0; len(run)+5 <= api.MaxEvents; k++ {
		g := k % (gs - 1)
		run = append(run, acquire(g, uint64(k%7)), write(g, uint64(8*(k%50)), 8), release(g, uint64(k%7)), read(98, 1007, 1))
	}
	last := len(run) - 1
	around(t, run, at(gs-1, last), 97, 98, gs-1, last)
	around(t, run, at(gs-1, last-4), 97, 98, gs-1, last-4)
	noRace(t, run, at(last-4, last))
	run = append(run, read(97, 1000, 1))
	around(t, run, at(gs-1, last+1), 96, 98, gs-1, last+1)
	want := plainOnly(run, 1000, 1007)
	leaves(t, run, 1000, 1007, want...)
	leaves(t, run, 0, 399, slices.DeleteFunc(count(0, len(run), 1), func(k int) bool { return run[k].Obj >= 1000 })...)
}

// TestDeepStacks: the deepest stacks on all events that there can be; each answer has its own.
func TestDeepStacks(t *testing.T) {
	defer inTime(t, time.Now())
	stack := slices.Repeat([]string{"f"}, api.MaxDepth)
	run := slices.Repeat([]api.Event{{Kind: api.Read, Obj: 8, Arg: 1, Stack: stack}}, api.MaxEvents)
	got, fault := slice.Prefix(run, len(run))
	if fault != api.OK || len(got) != len(run) {
		t.Fatalf("P22.1: %d events, %d", len(got), fault)
	}
	got[0].Stack[0] = "x"
	if got[1].Stack[0] != "f" || stack[0] != "f" || got[len(got)-1].Stack[api.MaxDepth-1] != "f" {
		t.Errorf("P22.10: stacks are shared")
	}
	got, places, _, fault := slice.Only(run, 8, 8)
	if fault != api.OK || len(got) != len(run) || len(places) != len(run) || got[7].Stack[15] != "f" {
		t.Errorf("P22.4: %d events, %d", len(got), fault)
	}
}
