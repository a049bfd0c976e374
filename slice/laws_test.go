package slice_test

import (
	"math/rand"
	"slices"
	"testing"

	"hindsight/api"
	"hindsight/order"
	"hindsight/race"
	"hindsight/samples"
	"hindsight/slice"
)

// mixes are lists of kinds that go well together; of each there is much that events need.
func mixes() [][]int {
	all := append(samples.Kinds(), api.Read, api.Write, api.Read, api.Write, api.Fork, api.Send, api.Recv, api.Ack)
	return append(samples.Focus(), all,
		[]int{api.Acquire, api.Release, api.RAcquire, api.RRelease, api.Fork, api.Read, api.Write, api.Write},
		[]int{api.RAcquire, api.RAcquire, api.RRelease, api.Fork, api.Write},
		[]int{api.Make, api.Send, api.Send, api.Ack, api.Recv, api.Recv, api.Fork, api.Write, api.Close},
		[]int{api.Alloc, api.Free, api.Read, api.Write, api.Write, api.Fork},
		[]int{api.Add, api.Add, api.Wait, api.Wait, api.Once, api.Once, api.Fork, api.Write, api.Join},
	)
}

// someRun is a run of one of the mixes, its bytes somewhere in memory.
func someRun(r *rand.Rand, n int) []api.Event {
	mix := mixes()[r.Intn(len(mixes()))]
	return samples.Moved(r.Intn, samples.Run(r.Intn, n, 2+r.Intn(5), mix...))
}

// someChoice keeps of n events few or many.
func someChoice(r *rand.Rand, n int) []bool {
	keep := make([]bool, n)
	for of := 1 + r.Intn(20); n > 0; n-- {
		keep[n-1] = r.Intn(20) < of
	}
	return keep
}

// both keeps what one of two choices keeps.
func both(a, b []bool) []bool {
	keep := make([]bool, len(a))
	for k := range keep {
		keep[k] = a[k] || b[k]
	}
	return keep
}

// TestWalks: all runs of some moves, and of each all closed choices of one event, and of two.
func TestWalks(t *testing.T) {
	begin := []api.Event{fork(0, 1)}
	zero := slices.Concat(begin, []api.Event{create(0, 3, 0)})
	room := slices.Concat(begin, []api.Event{create(0, 3, 1)})
	for name, x := range map[string]struct {
		beginning []api.Event
		depth     int
		moves     []api.Event
	}{
		"goroutines":   {nil, 5, samples.Each(3, fork(0, 1), fork(0, 2), join(0, 0), join(0, 1), join(0, 2), mark)},
		"locks":        {begin, 6, samples.Each(2, acquire(0, 5), release(0, 5), racquire(0, 5), rrelease(0, 5))},
		"readers":      {begin, 7, samples.Each(2, racquire(0, 5), rrelease(0, 5))},
		"no room":      {zero, 7, samples.Each(2, send(0, 3), ack(0, 3), recv(0, 3), shut(0, 3), drained(0, 3))},
		"room":         {room, 6, samples.Each(2, send(0, 3), recv(0, 3), shut(0, 3), drained(0, 3))},
		"wait groups":  {begin, 5, samples.Each(2, more(0, 4, 1), less(0, 4, 1), wait(0, 4), more(0, 5, 1))},
		"onces":        {begin, 5, samples.Each(2, ran(0, 8), had(0, 8), ran(0, 9), had(0, 9))},
		"lives":        {begin, 6, samples.Each(1, alloc(0, 8, 2), free(0, 8, 2), alloc(0, 9, 1), free(0, 9, 1), alloc(0, 8, 1), free(0, 8, 1))},
		"two channels": {slices.Concat(zero, []api.Event{create(0, 4, 1)}), 5, samples.Each(2, send(0, 3), send(0, 4), ack(0, 3), recv(0, 3), recv(0, 4))},
	} {
		runs := samples.Walk(x.beginning, x.depth, x.moves, func(run []api.Event) {
			needs := plainAll(run)
			for i := range run {
				j := (i + len(run)/2) % len(run)
				keep := chosen(len(run), i, j)
				if got, want := closed(t, run, keep), plainClosed(needs, keep); !slices.Equal(got, want) {
					t.Fatalf("P22.3: %s: Closed(%v, %v) = %v, want %v", name, run, kept(keep), kept(got), kept(want))
				}
				keep[j] = i == j
				got, want := closed(t, run, keep), plainClosed(needs, keep)
				if !slices.Equal(got, want) {
					t.Fatalf("P22.3: %s: Closed(%v, %v) = %v, want %v", name, run, kept(keep), kept(got), kept(want))
				}
				isRun(t, picked(run, kept(got)), "P22.6")
			}
		})
		if runs < 60 {
			t.Errorf("%s: the test met %d runs only", name, runs)
		}
	}
}

// TestRandomRuns: Closed of many runs and choices, against the plain reading; a test that meets too little does
// not pass.
func TestRandomRuns(t *testing.T) {
	r := rand.New(rand.NewSource(221))
	grown, whole, same := 0, 0, 0
	for range 2500 {
		run := someRun(r, 1+r.Intn(60))
		needs := plainAll(run)
		for range 8 {
			keep := someChoice(r, len(run))
			got, want := closed(t, run, keep), plainClosed(needs, keep)
			if !slices.Equal(got, want) {
				t.Fatalf("P22.3: Closed(%v, %v) = %v, want %v", run, kept(keep), kept(got), kept(want))
			}
			switch n := len(kept(got)); {
			case n == len(kept(keep)):
				same++
			case n == len(run):
				whole++
			default:
				grown++
			}
		}
	}
	if grown < 5000 || whole < 500 || same < 500 {
		t.Errorf("the test met choices that grew %d times, to the whole %d times, and not at all %d times", grown, whole, same)
	}
}

// keepsOrder fails if two events that are left are ordered there, and not in the whole; it answers how many are
// ordered no longer.
func keepsOrder(t *testing.T, run []api.Event, o *order.Order, places []int) int {
	t.Helper()
	left := orderOf(t, picked(run, places))
	lost := 0
	for b, j := range places {
		for a, i := range places[:b] {
			if before(left, a, b) && !before(o, i, j) {
				t.Fatalf("P22.6: of %v, %v is left: %d happens before %d there alone", run, places, i, j)
			}
			if before(o, i, j) && !before(left, a, b) {
				lost++
			}
		}
	}
	return lost
}

// TestARunIsLeft: what a closed choice leaves is a run, in which nothing is ordered that was not.
func TestARunIsLeft(t *testing.T) {
	r := rand.New(rand.NewSource(222))
	lost := 0
	for range 800 {
		run := someRun(r, 1+r.Intn(50))
		o := orderOf(t, run)
		for range 4 {
			left, places, fault := slice.Take(run, closed(t, run, someChoice(r, len(run))))
			if fault != api.OK || !sameEvents(left, picked(run, places)) {
				t.Fatalf("P22.2: Take of %v = %v, %v, %d", run, left, places, fault)
			}
			isRun(t, left, "P22.6")
			lost += keepsOrder(t, run, o, places)
		}
		lo := run[0].Obj + uint64(r.Intn(9))
		left, places, _, _ := slice.Only(run, lo, lo+uint64(r.Intn(9)))
		isRun(t, left, "P22.6")
		if n := keepsOrder(t, run, o, places); n > 0 {
			t.Fatalf("P22.8: of %v, Only leaves %v: %d pairs are ordered no longer", run, places, n)
		}
	}
	if lost < 5000 {
		t.Errorf("the test met %d pairs only that are ordered no longer", lost)
	}
}

// mapped are those races of a run of which both events are left, by their places there.
func mapped(races []api.Race, places []int) []api.Race {
	var some []api.Race
	for _, x := range races {
		i, a := slices.BinarySearch(places, x.First)
		j, b := slices.BinarySearch(places, x.Second)
		if a && b {
			some = append(some, at(i, j))
		}
	}
	return some
}

// TestRacesStay: those of which both events are kept are races in what is left; there may be more.
func TestRacesStay(t *testing.T) {
	r := rand.New(rand.NewSource(223))
	stayed, came := 0, 0
	for range 1500 {
		run := someRun(r, 1+r.Intn(50))
		races := racesOf(t, run)
		left, places, _ := slice.Take(run, closed(t, run, someChoice(r, len(run))))
		had, now := mapped(races, places), racesOf(t, left)
		for _, x := range had {
			if !slices.Contains(now, x) {
				t.Fatalf("P22.7: of %v, %v is left: the race %v is gone", run, places, x)
			}
		}
		stayed, came = stayed+len(had), came+len(now)-len(had)
	}
	if stayed < 2000 || came < 100 {
		t.Errorf("the test met %d races that stayed, and %d that came", stayed, came)
	}
}

// TestAround: all races of many runs, and all pairs that are none; what is left is a run, ends with the race's
// second event, and has the race.
func TestAround(t *testing.T) {
	r := rand.New(rand.NewSource(224))
	races, cut := 0, 0
	for range 400 {
		run := someRun(r, 1+r.Intn(40))
		races += judged(t, run)
		o := orderOf(t, run)
		for _, x := range racesOf(t, run) {
			left, places, _, _ := slice.Around(run, x)
			isRun(t, left, "P22.6")
			keepsOrder(t, run, o, places)
			first, _ := slices.BinarySearch(places, x.First)
			n := len(places) - 1
			if places[n] != x.Second || places[first] != x.First || !plainRace(left, orderOf(t, left), first, n) {
				t.Fatalf("P22.7: Around(%v, %v) = %v", run, x, left)
			}
			if all, _, _ := race.All(left); !slices.ContainsFunc(all, func(y api.Race) bool { return y.Second == n && y.First >= first }) {
				t.Fatalf("P22.7: the races of what is left around %v of %v are %v", x, run, all)
			}
			cut += x.Second - n
		}
	}
	if races < 2000 || cut < 5*races {
		t.Errorf("the test met %d races, %d events were left out", races, cut)
	}
}

// TestVerdictOfPrefix: its races are those of the run, as far as it goes.
func TestVerdictOfPrefix(t *testing.T) {
	r := rand.New(rand.NewSource(225))
	for range 150 {
		run := someRun(r, 1+r.Intn(40))
		races := racesOf(t, run)
		told, _, _ := race.All(run)
		for n := range len(run) + 1 {
			part, fault := slice.Prefix(run, n)
			if fault != api.OK || !sameEvents(part, run[:n]) {
				t.Fatalf("P22.1: Prefix(%v, %d) = %v, %d", run, n, part, fault)
			}
			behind := func(x api.Race) bool { return x.Second >= n }
			if got, want := racesOf(t, part), slices.DeleteFunc(slices.Clone(races), behind); !slices.Equal(got, want) {
				t.Fatalf("P22.8: of %v: the first %d have the races %v, want %v", run, n, got, want)
			}
			if got, _, _ := race.All(part); !slices.Equal(got, slices.DeleteFunc(slices.Clone(told), behind)) {
				t.Fatalf("P22.8: of %v: race.All of the first %d is %v, of the whole %v", run, n, got, told)
			}
		}
	}
}

// TestVerdictOfOnly: its races are those of the run of which both events are left.
func TestVerdictOfOnly(t *testing.T) {
	r := rand.New(rand.NewSource(226))
	stayed, gone := 0, 0
	for range 1200 {
		run := someRun(r, 1+r.Intn(50))
		races := racesOf(t, run)
		lo := run[r.Intn(len(run))].Obj + uint64(r.Intn(5))
		hi := lo + uint64(r.Intn(4))
		left, places, place, fault := slice.Only(run, lo, hi)
		want := plainOnly(run, lo, hi)
		if !slices.Equal(places, want) || !sameEvents(left, picked(run, want)) || place != -1 || fault != api.OK {
			t.Fatalf("P22.4: Only(%v, %d, %d) = %v, %d, %d, want %v", run, lo, hi, places, place, fault, want)
		}
		had := mapped(races, places)
		if got := racesOf(t, left); !slices.Equal(got, had) {
			t.Fatalf("P22.8: of %v, %v is left, with the races %v, want %v", run, places, got, had)
		}
		stayed, gone = stayed+len(had), gone+len(races)-len(had)
	}
	if stayed < 2000 || gone < 2000 {
		t.Errorf("the test met %d races that stayed, and %d that did not", stayed, gone)
	}
}

// TestClosure: a closed choice stays; two closed together are the two together closed; more keeps more.
func TestClosure(t *testing.T) {
	r := rand.New(rand.NewSource(227))
	for range 1000 {
		run := someRun(r, 1+r.Intn(50))
		a, b := someChoice(r, len(run)), someChoice(r, len(run))
		of := closed(t, run, a)
		if again := closed(t, run, of); !slices.Equal(again, of) {
			t.Fatalf("P22.9: of %v: Closed of the closed %v = %v", run, kept(of), kept(again))
		}
		together := closed(t, run, both(a, b))
		if want := both(of, closed(t, run, b)); !slices.Equal(together, want) {
			t.Fatalf("P22.9: of %v: Closed of %v and %v together = %v, want %v", run, kept(a), kept(b), kept(together), kept(want))
		}
		if !slices.Equal(both(of, together), together) || !slices.Equal(both(a, of), of) {
			t.Fatalf("P22.9: of %v: Closed of %v = %v, of more %v", run, kept(a), kept(of), kept(together))
		}
		all := slices.Repeat([]bool{true}, len(run))
		if none := closed(t, run, make([]bool, len(run))); len(kept(none)) != 0 || !slices.Equal(closed(t, run, all), all) {
			t.Fatalf("P22.3: of %v: Closed of none = %v", run, kept(none))
		}
	}
}

// TestOtherNumbers: with other numbers, unlike ones unlike numbers, the same events are needed; also with goroutines
// of any numbers.
func TestOtherNumbers(t *testing.T) {
	r := rand.New(rand.NewSource(228))
	numbers := []uint64{top, 1 << 32, 0}
	for range 500 {
		run := samples.Run(r.Intn, 50, 5, mixes()[r.Intn(len(mixes()))]...)
		gs := r.Perm(api.MaxG - 1)[:4]
		other := func(g int) int {
			if g == 0 {
				return 0
			}
			return 1 + gs[g-1]
		}
		great := slices.Clone(run)
		for k, e := range run {
			great[k].G = other(e.G)
			switch e.Kind {
			case api.Fork, api.Join:
				great[k].Arg = uint64(other(int(e.Arg)))
			case api.Read, api.Write, api.Alloc, api.Free, api.Mark:
			default:
				great[k].Obj = numbers[e.Obj]
			}
		}
		keep := someChoice(r, len(run))
		if got, want := closed(t, great, keep), closed(t, run, keep); !slices.Equal(got, want) {
			t.Fatalf("P22.3: of %v: Closed of %v = %v, want %v", great, kept(keep), kept(got), kept(want))
		}
	}
}
