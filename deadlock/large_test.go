package deadlock_test

import (
	"math/rand"
	"slices"
	"testing"
	"time"

	"hindsight/api"
	"hindsight/deadlock"
)

// inTime fails if a test of a large run took much longer than it needs.
func inTime(t *testing.T, begun time.Time) {
	t.Helper()
	if took := time.Since(begun); took > 150*time.Second {
		t.Errorf("P0.1: it took %v", took)
	}
}

// crowd is a run of many events of some goroutines: each time one takes so many of some locks, numbered from 1
// on, inside one of some gates, which have the numbers behind these.
func crowd(events, goroutines, locks, deep, gates int) []api.Event {
	r := rand.New(rand.NewSource(2111))
	run := begin(goroutines)
	for len(run) < events-2*(deep+1) {
		var list []int
		if gates > 0 {
			list = append(list, locks+1+r.Intn(gates))
		}
		for _, lock := range r.Perm(locks)[:deep] {
			list = append(list, lock+1)
		}
		run = append(run, nest(r.Intn(goroutines), list...)...)
	}
	return run
}

// ringsOf are the rings of a run, by their lengths.
func ringsOf(t *testing.T, run []api.Event) lengths {
	t.Helper()
	rings, place, fault := deadlock.Cycles(run)
	if place != -1 || fault != api.OK {
		t.Fatalf("P21.2: Cycles answers %d, %d", place, fault)
	}
	var met lengths
	met.add(rings)
	return met
}

// full is how many names of two to four of so many locks there are.
func full(n int) lengths {
	return lengths{2: n * (n - 1) / 2, 3: n * (n - 1) * (n - 2) / 3, 4: n * (n - 1) * (n - 2) * (n - 3) / 4}
}

// TestAllNames: all pairs of many locks, each by a goroutine of its own: all names that there can be, in their
// order.
func TestAllNames(t *testing.T) {
	defer inTime(t, time.Now())
	const locks = 30
	run := begin(locks * (locks - 1))
	g, at := 0, map[[2]uint64]int{}
	for a := 1; a <= locks; a++ {
		for b := 1; b <= locks; b++ {
			if a != b {
				at[[2]uint64{uint64(a), uint64(b)}] = len(run) + 1
				run = append(run, nest(g, a, b)...)
				g++
			}
		}
	}
	rings, _, _ := deadlock.Cycles(run)
	var met lengths
	met.add(rings)
	if met != full(locks) {
		t.Fatalf("P21.2: rings of the lengths %v, want %v", met, full(locks))
	}
	var last []uint64
	for _, ring := range rings {
		var name []uint64
		for _, h := range ring {
			name = append(name, h.Outer)
			if h.At != at[[2]uint64{h.Outer, h.Inner}] {
				t.Fatalf("P21.2: %v has the wrong event", h)
			}
		}
		if len(name) < len(last) || len(name) == len(last) && slices.Compare(name, last) <= 0 {
			t.Fatalf("P21.2: the name %v comes behind %v", name, last)
		}
		last = name
	}
}

// TestGreatestRun: as many events as there may be, many locks held, all names.
func TestGreatestRun(t *testing.T) {
	defer inTime(t, time.Now())
	const locks = 20
	run := crowd(api.MaxEvents, 100, locks, 10, 0)
	if met := ringsOf(t, run); met != full(locks) {
		t.Errorf("P21.2: rings of the lengths %v, want %v", met, full(locks))
	}
	holds, _, _ := deadlock.Holds(run)
	if want := bare(plainHolds(run)); !slices.Equal(holds, want) {
		t.Errorf("P21.1: Holds answers %d, want %d", len(holds), len(want))
	}
	hasNoOrder(t, run)
}

// TestManyGates: behind one gate, or one of two or three, so many goroutines can stand together at most.
func TestManyGates(t *testing.T) {
	defer inTime(t, time.Now())
	const locks = 60
	for gates := 1; gates < 4; gates++ {
		want := full(locks)
		for n := gates + 1; n < len(want); n++ {
			want[n] = 0
		}
		deep := 4
		if gates == 1 {
			deep = 8
		}
		if met := ringsOf(t, crowd(1<<18, 1000, locks, deep, gates)); met != want {
			t.Errorf("P21.2: behind %d gates rings of the lengths %v, want %v", gates, met, want)
		}
	}
}

// TestFewGoroutines: many locks and few goroutines, so that long rings are of none.
func TestFewGoroutines(t *testing.T) {
	defer inTime(t, time.Now())
	const locks = 40
	for gs := 1; gs < 4; gs++ {
		want := full(locks)
		for n := gs + 1; n < len(want); n++ {
			want[n] = 0
		}
		if met := ringsOf(t, crowd(1<<18, gs, locks, 3, 0)); met != want {
			t.Errorf("P21.2: of %d goroutines rings of the lengths %v, want %v", gs, met, want)
		}
	}
}

// TestManyLocks: an order of as many locks as a run can take, each inside the one behind it; and without one of
// these holds, and with one that closes the ring.
func TestManyLocks(t *testing.T) {
	defer inTime(t, time.Now())
	const locks = 200000
	var run []api.Event
	for lock := 1; lock < locks; lock++ {
		run = append(run, nest(0, lock+1, lock)...)
	}
	want := upTo(locks)
	slices.Reverse(want)
	if got, is, _, fault := deadlock.Order(run); !slices.Equal(got, want) || !is || fault != api.OK {
		t.Errorf("P21.3: Order answers %d locks, %t, %d", len(got), is, fault)
	}
	if got, place, fault := deadlock.Cycles(run); len(got) != 0 || place != -1 || fault != api.ErrLarge {
		t.Errorf("P21.2: Cycles answers %d, %d, %d", len(got), place, fault)
	}
	hasNoOrder(t, append(slices.Clone(run), nest(0, 1, locks)...))
	cut := slices.Concat(run[:4*1000], run[4*1001:]) // 1002 stands no longer ahead of 1001
	want = upTo(1001)
	slices.Reverse(want)
	for lock := uint64(locks); lock > 1001; lock-- {
		want = append(want, lock)
	}
	if got, is, _, fault := deadlock.Order(cut); !slices.Equal(got, want) || !is || fault != api.OK {
		t.Errorf("P21.3: Order of the cut run answers %d locks, %t, %d", len(got), is, fault)
	}
}

// TestDeepest: rows of as many locks as may be held, again and again.
func TestDeepest(t *testing.T) {
	defer inTime(t, time.Now())
	var list []int
	for lock := range api.MaxHeld + 1 {
		list = append(list, lock+1)
	}
	one := nest(0, list...)
	run := slices.Repeat(one, 1<<18/len(one))
	holds, place, fault := deadlock.Holds(run)
	if want := 1 << 18 / len(one) * len(list) * (len(list) - 1) / 2; len(holds) != want || place != -1 || fault != api.OK {
		t.Errorf("P21.1: Holds answers %d holds, %d, %d, want %d", len(holds), place, fault, want)
	}
	hasOrder(t, run, upTo(len(list))...)
	hasRings(t, slices.Repeat(nest(0, list[1:]...), 1000))
}

// TestAllGoroutines: all that there can be, in one ring of two; the first ones that fit are told.
func TestAllGoroutines(t *testing.T) {
	defer inTime(t, time.Now())
	run := begin(api.MaxG)
	for g := range api.MaxG {
		run = append(run, nest(g, 1, 2)...)
	}
	from := len(run)
	for g := range api.MaxG {
		run = append(run, nest(g, 2, 1)...)
	}
	hasRings(t, run, []api.Hold{hold(0, 1, 2, api.MaxG), hold(1, 2, 1, from+5)})
}
