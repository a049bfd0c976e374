package deadlock_test

import (
	"math/rand"
	"slices"
	"testing"

	"hindsight/api"
	"hindsight/check"
	"hindsight/deadlock"
	"hindsight/samples"
)

// law fails if the calls on a run don't go together as P21.4 says, and P21.5, if it is of that kind.
func law(t *testing.T, run []api.Event) {
	t.Helper()
	holds, _, _ := deadlock.Holds(run)
	rings, _, _ := deadlock.Cycles(run)
	order, is, _, _ := deadlock.Order(run)
	if is && len(rings) > 0 {
		t.Fatalf("P21.4: of %v: the order %v, and the rings %v", run, order, rings)
	}
	for _, ring := range rings {
		for _, h := range ring {
			if !slices.Contains(holds, h) {
				t.Fatalf("P21.4: of %v: %v is none of %v", run, h, holds)
			}
		}
	}
	for _, h := range holds {
		if is && slices.Index(order, h.Outer) >= slices.Index(order, h.Inner) {
			t.Fatalf("P21.3: of %v: %v is against the order %v", run, h, order)
		}
	}
	if len(holds) == 0 && (!is || !slices.IsSorted(order)) {
		t.Fatalf("P21.5: of %v: Order = %v, %t", run, order, is)
	}
}

// modes are all ways to take the locks of a list, each to write or to read.
func modes(list []int) [][]int {
	all := [][]int{nil}
	for _, lock := range list {
		var more [][]int
		for _, some := range all {
			more = append(more, append(slices.Clone(some), lock), append(slices.Clone(some), -lock))
		}
		all = more
	}
	return all
}

// rows are all lists of up to n unlike locks of some.
func rows(n int, of ...int) [][]int {
	return slices.DeleteFunc(samples.AllLists(n, of...), func(list []int) bool {
		sorted := slices.Compact(slices.Sorted(slices.Values(list)))
		return len(sorted) != len(list)
	})
}

// inModes are the rows that have a length, in all modes.
func inModes(rows [][]int, length func(int) bool) [][]int {
	var all [][]int
	for _, list := range rows {
		if length(len(list)) {
			all = append(all, modes(list)...)
		}
	}
	return all
}

// TestAllOfTwo: two goroutines, each with up to three locks inside each other, in all orders and ways.
func TestAllOfTwo(t *testing.T) {
	all, rings := inModes(rows(3, 1, 2, 3), func(int) bool { return true }), 0
	for _, a := range all {
		for _, b := range all {
			run := parts(2, nest(0, a...), nest(1, b...))
			rings += len(agrees(t, run, plainCycles))
			law(t, run)
		}
	}
	if rings < 1000 {
		t.Errorf("the test met %d rings only", rings)
	}
}

// TestAllOfThree: three goroutines, each with two or three of three locks, in all orders and ways.
func TestAllOfThree(t *testing.T) {
	two := inModes(rows(3, 1, 2, 3), func(n int) bool { return n == 2 })
	three := inModes(rows(3, 1, 2, 3), func(n int) bool { return n == 3 })
	var met lengths
	for _, a := range two {
		for _, b := range two {
			for _, c := range slices.Concat(two, three) {
				met.add(agrees(t, parts(3, nest(0, a...), nest(1, b...), nest(2, c...)), plainCycles))
			}
		}
	}
	if met[2] < 5000 || met[3] < 500 {
		t.Errorf("the test met %v rings of these lengths", met)
	}
}

// TestAllOfFour: four goroutines, each with two of four locks, in all orders; the first hold is given.
func TestAllOfFour(t *testing.T) {
	pairs := slices.DeleteFunc(rows(2, 1, 2, 3, 4), func(list []int) bool { return len(list) != 2 })
	var met lengths
	for _, a := range pairs {
		for _, b := range pairs {
			for _, c := range pairs {
				met.add(agrees(t, parts(4, nest(2, 1, 2), nest(0, a...), nest(3, b...), nest(1, c...)), plainCycles))
			}
		}
	}
	if met[2] < 500 || met[3] < 50 || met[4] < 5 {
		t.Errorf("the test met %v rings of these lengths", met)
	}
}

// TestAllModes: a ring of four, each taking and holding to write or to read, with gates of all sorts.
func TestAllModes(t *testing.T) {
	gates, rings := [][]int{nil, {9}, {-9}}, 0
	for mode := range 256 {
		for sort := range 81 {
			run, m, s := begin(4), mode, sort
			for g := range 4 {
				locks := append(slices.Clone(gates[s%3]), g+1, (g+1)%4+1)
				if m&1 == 1 {
					locks[len(locks)-2] *= -1
				}
				if m&2 == 2 {
					locks[len(locks)-1] *= -1
				}
				run, m, s = append(run, nest(g, locks...)...), m>>2, s/3
			}
			list := plainHolds(run)
			want := quickCycles(list)
			hasRings(t, run, want...)
			rings += len(want)
		}
	}
	if rings < 500 {
		t.Errorf("the test met %d rings only", rings)
	}
}

// TestWalk: all runs of some takings and givings back of two goroutines.
func TestWalk(t *testing.T) {
	two := samples.Each(2, acquire(0, 1), release(0, 1), acquire(0, 2), release(0, 2))
	read := samples.Each(2, racquire(0, 1), rrelease(0, 1), acquire(0, 1), release(0, 1), racquire(0, 2))
	three := samples.Each(1, acquire(0, 1), release(0, 1), racquire(0, 2), rrelease(0, 2), acquire(0, 3), release(0, 3), acquire(0, 2), release(0, 2))
	for _, x := range []struct {
		moves []api.Event
		depth int
	}{{two, 8}, {read, 6}, {three, 6}} {
		runs := samples.Walk(begin(2), x.depth, x.moves, func(run []api.Event) {
			agrees(t, run, plainCycles)
			law(t, run)
		})
		if runs < 1000 {
			t.Errorf("the test met %d runs only", runs)
		}
	}
}

// nestedRun is a run of so many takings and givings back of some goroutines and locks. Goroutines take in any
// order; of ten takings so many are to read.
func nestedRun(r *rand.Rand, n, goroutines, locks, reads int) []api.Event {
	c, run := check.New(), begin(goroutines)
	for _, e := range run {
		c.Add(e)
	}
	for tries := 20 * n; tries > 0 && len(run) < n; tries-- {
		g, lock := r.Intn(goroutines), uint64(r.Intn(locks))
		e := acquire(g, lock)
		if r.Intn(10) < reads {
			e = racquire(g, lock)
		}
		held, toWrite := c.Held(g)
		if k := len(held); k > 0 && r.Intn(4) < k { // the more it holds, the sooner it gives back
			k = r.Intn(k)
			e = rrelease(g, held[k])
			if toWrite[k] {
				e = release(g, held[k])
			}
		}
		if reason, fault := c.Add(e); reason == 0 && fault == api.OK {
			run = append(run, e)
		}
	}
	return run
}

// nestsRun is a run of at least so many events, in which one goroutine behind the other takes up to four locks
// inside each other.
func nestsRun(r *rand.Rand, n, goroutines, locks, reads int) []api.Event {
	run := begin(goroutines)
	for len(run) < n {
		list := r.Perm(locks)[:min(locks, 1+r.Intn(4))]
		for k := range list {
			if list[k]++; r.Intn(10) < reads {
				list[k] *= -1
			}
		}
		run = append(run, nest(r.Intn(goroutines), list...)...)
	}
	return run
}

// lengths counts rings by their lengths.
type lengths [5]int

func (l *lengths) add(rings [][]api.Hold) {
	for _, ring := range rings {
		l[len(ring)]++
	}
}

// TestRandomRuns: what all calls answer; a test that meets too little does not pass.
func TestRandomRuns(t *testing.T) {
	r := rand.New(rand.NewSource(211))
	var met lengths
	ordered, none := 0, 0
	for range 3000 {
		gs, locks, reads := 1+r.Intn(6), 2+r.Intn(5), r.Intn(8)
		for _, run := range [][]api.Event{nestedRun(r, 10+r.Intn(80), gs, locks, reads), nestsRun(r, 10+r.Intn(80), gs, locks, reads)} {
			met.add(agrees(t, run, quickCycles))
			law(t, run)
			if _, is, _, _ := deadlock.Order(run); is {
				ordered++
			} else {
				none++
			}
		}
	}
	if met[2] < 3000 || met[3] < 1500 || met[4] < 200 || ordered < 500 || none < 2000 {
		t.Errorf("the test met rings of the lengths %v, %d orders, and %d runs without one", met, ordered, none)
	}
}

// TestShortRuns: against the plainest reading, which looks at all lists of holds.
func TestShortRuns(t *testing.T) {
	r := rand.New(rand.NewSource(212))
	var met lengths
	for range 2000 {
		gs, locks, reads := 2+r.Intn(4), 2+r.Intn(4), r.Intn(6)
		met.add(agrees(t, nestedRun(r, 14+r.Intn(20), gs, locks, reads), plainCycles))
		met.add(agrees(t, nestsRun(r, 20+r.Intn(20), gs, locks, reads), plainCycles))
	}
	if met[2] < 2000 || met[3] < 100 {
		t.Errorf("the test met rings of the lengths %v", met)
	}
}

// TestLongRuns: many holds that are alike, and many that differ in little; few goroutines and many, few locks and
// many.
func TestLongRuns(t *testing.T) {
	r := rand.New(rand.NewSource(213))
	var met lengths
	for k := range 60 {
		gs, locks, reads := []int{2, 3, 4, 5, 8, 20}[k%6], []int{3, 5, 8, 12, 16}[k%5], []int{0, 3, 7}[k%3]
		for _, run := range [][]api.Event{nestedRun(r, 300, gs, locks, reads), nestsRun(r, 300, gs, locks, reads)} {
			met.add(agrees(t, run, quickCycles))
			law(t, run)
		}
	}
	if met[2] < 500 || met[3] < 1000 || met[4] < 1000 {
		t.Errorf("the test met rings of the lengths %v", met)
	}
}

// TestGatedRuns: each taking stands behind one of a few gates, to write or to read.
func TestGatedRuns(t *testing.T) {
	r := rand.New(rand.NewSource(217))
	var met lengths
	for k := range 400 {
		gs, gates := 2+r.Intn(8), 1+k%4
		run := begin(gs)
		for range 40 {
			locks := []int{10 + r.Intn(gates)}
			for _, lock := range r.Perm(5)[:2+r.Intn(2)] {
				locks = append(locks, 1+lock)
			}
			if r.Intn(6) == 0 {
				locks[0] *= -1
			}
			run = append(run, nest(r.Intn(gs), locks...)...)
		}
		met.add(agrees(t, run, quickCycles))
	}
	if met[2] < 500 || met[3] < 500 || met[4] < 100 {
		t.Errorf("the test met rings of the lengths %v", met)
	}
}

// TestOtherKinds: runs with events of all sorts, whose numbers are those of locks.
func TestOtherKinds(t *testing.T) {
	r := rand.New(rand.NewSource(214))
	holds := 0
	for k := range 1500 {
		mix := samples.Focus()[k%2]
		if k%2 == 0 {
			mix = append(slices.Clone(mix), api.Acquire, api.Acquire, api.RAcquire, api.Fork)
		}
		run := samples.Run(r.Intn, 20+r.Intn(50), 2+r.Intn(5), mix...)
		agrees(t, run, quickCycles)
		law(t, run)
		got, _, _ := deadlock.Holds(run)
		holds += len(got)
	}
	if holds < 3000 {
		t.Errorf("the test met %d holds only", holds)
	}
}

// TestNoHolds: runs in which nobody takes a lock while it holds another one.
func TestNoHolds(t *testing.T) {
	r := rand.New(rand.NewSource(215))
	numbers := []uint64{0, 1, 2, 7, 1 << 31, 1 << 32, 1<<63 - 1, 1 << 63, top - 1, top}
	for range 500 {
		gs := 1 + r.Intn(5)
		run, took := begin(gs), map[uint64]int{}
		for range r.Intn(40) {
			g, lock := r.Intn(gs), numbers[r.Intn(len(numbers))]
			took[lock]++
			if r.Intn(2) == 0 {
				run = append(run, acquire(g, lock), mark, release(g, lock))
			} else {
				run = append(run, racquire(g, lock), racquire(g, lock), rrelease(g, lock), rrelease(g, lock))
			}
		}
		var want []uint64
		for _, lock := range numbers {
			if took[lock] > 0 {
				want = append(want, lock)
			}
		}
		hasHolds(t, run)
		hasRings(t, run)
		hasOrder(t, run, want...)
	}
}

// TestGreaterNumbers: with other numbers that rise as theirs do, the locks of all answers become these.
func TestGreaterNumbers(t *testing.T) {
	r := rand.New(rand.NewSource(216))
	numbers := []uint64{3, 1 << 20, 1<<32 + 1, 1<<63 - 1, 1 << 63, top}
	turn := func(h api.Hold) api.Hold {
		h.Outer, h.Inner = numbers[h.Outer], numbers[h.Inner]
		return h
	}
	met := 0
	for range 500 {
		run := nestedRun(r, 60, 2+r.Intn(4), len(numbers), r.Intn(6))
		great := slices.Clone(run)
		for k, e := range run {
			if e.Kind != api.Fork {
				great[k].Obj = numbers[e.Obj]
			}
		}
		holds, _, _ := deadlock.Holds(run)
		rings, _, _ := deadlock.Cycles(run)
		order, is, _, _ := deadlock.Order(run)
		met += len(rings)
		for k := range holds {
			holds[k] = turn(holds[k])
		}
		for _, ring := range rings {
			for k := range ring {
				ring[k] = turn(ring[k])
			}
		}
		for k := range order {
			order[k] = numbers[order[k]]
		}
		hasHolds(t, great, holds...)
		hasRings(t, great, rings...)
		if is {
			hasOrder(t, great, order...)
		} else {
			hasNoOrder(t, great)
		}
	}
	if met < 500 {
		t.Errorf("the test met %d rings only", met)
	}
}
