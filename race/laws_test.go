package race_test

import (
	"math/rand"
	"slices"
	"testing"

	"hindsight/api"
	"hindsight/check"
	"hindsight/race"
	"hindsight/samples"
)

// mixes are lists of kinds with accesses and something that orders some of them, or ends their lives.
func mixes() [][]int {
	return [][]int{
		append(samples.Kinds(), api.Read, api.Write, api.Read, api.Write, api.Read, api.Write, api.Fork),
		{api.Read, api.Write, api.Fork},
		{api.Read, api.Write, api.Write, api.Alloc, api.Free, api.Fork},
		{api.Read, api.Write, api.Acquire, api.Release, api.RAcquire, api.RRelease, api.Fork},
		{api.Read, api.Write, api.Store, api.Load, api.Swap, api.Fork, api.Join},
		{api.Read, api.Write, api.Write, api.Make, api.Send, api.Recv, api.Ack, api.Close, api.Fork},
		{api.Read, api.Write, api.Add, api.Wait, api.Once, api.Fork, api.Alloc, api.Free},
		{api.Read, api.Read, api.Write, api.Store, api.Load, api.Fork, api.Alloc},
	}
}

// someRun is a run of one of the mixes, its bytes somewhere in memory.
func someRun(r *rand.Rand, n int) []api.Event {
	mix := mixes()[r.Intn(len(mixes()))]
	return samples.Moved(r.Intn, samples.Run(r.Intn, n, 2+r.Intn(7), mix...))
}

// TestRandomRuns: what all calls answer, and that a test that meets no races does not pass.
func TestRandomRuns(t *testing.T) {
	r := rand.New(rand.NewSource(191))
	races, told, calm, most := 0, 0, 0, 0
	for range 1500 {
		p := holds(t, someRun(r, 10+r.Intn(50)))
		races, told = races+len(p.races), told+len(p.reported())
		if len(p.races) == 0 {
			calm++
		}
		for j := range p.run {
			most = max(most, len(second(p.reported(), j)))
		}
	}
	if told < 10000 || races < 2*told || calm < 30 || most < 6 {
		t.Errorf("the test met %d races, %d that are reported, up to %d of one second, %d runs without", races, told, most, calm)
	}
}

// TestLongRuns: much comes and goes at the same bytes.
func TestLongRuns(t *testing.T) {
	r := rand.New(rand.NewSource(192))
	for range 25 {
		run := someRun(r, 400)
		want := newPlain(t, run).reported()
		answers(t, run, want...)
	}
}

// TestBeginnings: a detector's answers, one behind the other, are All; the races of a beginning are those
// of the whole, as far as it goes.
func TestBeginnings(t *testing.T) {
	r := rand.New(rand.NewSource(193))
	for range 300 {
		run := someRun(r, 60)
		whole, _, _ := race.All(run)
		d, all := race.New(), []api.Race(nil)
		for n := range len(run) + 1 {
			if got, _, _ := race.All(run[:n]); !slices.Equal(got, all) {
				t.Fatalf("P19.5: of %v: All of the first %d = %v, a detector answers %v", run, n, got, all)
			}
			if !slices.Equal(all, until(whole, n)) {
				t.Fatalf("P19.5: of %v: the first %d have %v, the whole %v", run, n, all, whole)
			}
			if n < len(run) {
				some, _ := d.Add(run[n])
				all = append(all, some...)
			}
		}
	}
}

// until are the races whose Second is below a place.
func until(list []api.Race, place int) []api.Race {
	var some []api.Race
	for _, r := range list {
		if r.Second < place {
			some = append(some, r)
		}
	}
	return some
}

// TestSoundAndComplete: each answer is a race, and each race has an answer with its second place, of its
// first goroutine, that is no earlier; none twice.
func TestSoundAndComplete(t *testing.T) {
	r := rand.New(rand.NewSource(194))
	for range 400 {
		run := someRun(r, 60)
		p := newPlain(t, run)
		all, _, _ := race.All(run)
		if (len(all) > 0) != (len(p.races) > 0) || len(all) > 0 && all[0].Second != p.races[0].Second {
			t.Fatalf("P19.6: of %v: All = %v, the races are %v", run, all, p.races)
		}
		for k, x := range all {
			if !slices.Contains(p.races, x) || k > 0 && (x.Second < all[k-1].Second || x.Second == all[k-1].Second && x.First <= all[k-1].First) {
				t.Fatalf("P19.6: of %v: All = %v, the races are %v", run, all, p.races)
			}
		}
		for _, x := range p.races {
			if !answered(all, x, run) {
				t.Fatalf("P19.6: of %v: All = %v, %v has no answer", run, all, x)
			}
		}
	}
}

// answered tells whether one of some races has a race's second place and its first goroutine, and is no earlier.
func answered(list []api.Race, x api.Race, run []api.Event) bool {
	return slices.ContainsFunc(list, func(y api.Race) bool {
		return y.Second == x.Second && y.First >= x.First && run[y.First].G == run[x.First].G
	})
}

// TestOneLock: whose accesses all hold one lock to write, and give it back, have no race; without the lock
// they have.
func TestOneLock(t *testing.T) {
	r := rand.New(rand.NewSource(195))
	accesses, races := 0, 0
	for range 300 {
		locked := lockedRun(r, 60)
		answers(t, locked)
		bare := slices.DeleteFunc(slices.Clone(locked), func(e api.Event) bool { return e.Obj == theLock })
		all, _, _ := race.All(bare)
		races += len(all)
		for _, e := range locked {
			if isAccess(e) {
				accesses++
			}
		}
	}
	if accesses < 2000 || races < 500 {
		t.Errorf("the test met %d accesses, and %d races without the lock", accesses, races)
	}
}

// theLock is a number that no move has.
const theLock = 1 << 50

// lockedRun is a run in which each goroutine holds the lock at its accesses. Between, others may act.
func lockedRun(r *rand.Rand, n int) []api.Event {
	c, run, holder := check.New(), []api.Event(nil), -1
	add := func(e api.Event) bool {
		reason, fault := c.Add(e)
		if reason == 0 && fault == api.OK {
			run = append(run, e)
		}
		return reason == 0 && fault == api.OK
	}
	for range 6 * n {
		e := samples.Move(r.Intn, 4, mixes()[0]...)
		switch {
		case isAccess(e) && holder == -1:
			if add(ev(e.G, api.Acquire, theLock, 0)) {
				holder = e.G
				add(e)
			}
		case isAccess(e) && holder != e.G:
			if add(ev(holder, api.Release, theLock, 0)) {
				holder = -1
			}
		case e.Kind == api.Join && int(e.Arg) == holder, e.Kind == api.Send && e.G == holder: // it might not give it back
		default:
			add(e)
		}
	}
	if holder != -1 {
		add(ev(holder, api.Release, theLock, 0))
	}
	return run
}

// TestOneGoroutine: a run of one has no race.
func TestOneGoroutine(t *testing.T) {
	r := rand.New(rand.NewSource(196))
	for range 200 {
		run := someRun(r, 60)
		var alone []api.Event
		c := check.New()
		for _, e := range run {
			e.G = 0
			if reason, _ := c.Add(e); reason == 0 {
				alone = append(alone, e)
			}
		}
		answers(t, alone)
	}
}

// TestWithoutAtomics: who takes Loads, Stores and Swaps out takes no race away.
func TestWithoutAtomics(t *testing.T) {
	r := rand.New(rand.NewSource(197))
	more := 0
	for range 500 {
		run := samples.Moved(r.Intn, samples.Run(r.Intn, 60, 2+r.Intn(5), append(mixes()[r.Intn(len(mixes()))], api.Load, api.Store, api.Swap)...))
		var less []api.Event
		places := make([]int, len(run)) // those of the events that are left
		for k, e := range run {
			places[k] = len(less)
			if e.Kind != api.Load && e.Kind != api.Store && e.Kind != api.Swap {
				less = append(less, e)
			}
		}
		had, _, _ := race.All(run)
		left, _, fault := race.All(less)
		if fault != api.OK {
			t.Fatalf("P19.7: %v is no run: %d", less, fault)
		}
		for _, x := range had {
			if !answered(left, at(places[x.First], places[x.Second]), less) {
				t.Fatalf("P19.7: of %v: without its atomics %v is gone", run, x)
			}
		}
		more += len(left) - len(had)
	}
	if more < 1000 {
		t.Errorf("the test met %d races that an atomic took away", more)
	}
}
