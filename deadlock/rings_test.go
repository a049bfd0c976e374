package deadlock_test

import (
	"slices"
	"testing"

	"hindsight/api"
	"hindsight/deadlock"
)

// circle is a run in which goroutine k takes, of the locks 1 to n, the one behind its own, and the last one the
// first: n holds in a ring. Ahead of these two each takes the locks that are given for it.
func circle(n int, ahead map[int][]int) []api.Event {
	run := begin(n)
	for g := range n {
		run = append(run, nest(g, append(slices.Clone(ahead[g]), g+1, (g+1)%n+1)...)...)
	}
	return run
}

// upTo are the locks from 1 on.
func upTo(n int) []uint64 {
	var name []uint64
	for lock := 1; lock <= n; lock++ {
		name = append(name, uint64(lock))
	}
	return name
}

// TestLengths: rings of two to four holds are told, longer ones not, and there is no order with either.
func TestLengths(t *testing.T) {
	for n := 2; n < 9; n++ {
		run := circle(n, nil)
		if n <= 4 {
			names(t, run, upTo(n))
		} else {
			names(t, run)
		}
		hasNoOrder(t, run)
	}
}

// TestTurned: the hold with the least lock comes first, whoever took first, and whatever the numbers.
func TestTurned(t *testing.T) {
	for first := range 3 {
		run := begin(3)
		var at [3]int
		for k := range 3 {
			g := (first + k) % 3
			at[g] = len(run) + 1
			run = append(run, nest(g, g+1, (g+1)%3+1)...)
		}
		hasRings(t, run, []api.Hold{hold(0, 1, 2, at[0]), hold(1, 2, 3, at[1]), hold(2, 3, 1, at[2])})
	}
	great := parts(3, []api.Event{acquire(0, top), acquire(0, 1<<63), release(0, 1<<63), release(0, top)},
		[]api.Event{acquire(1, 1<<63), acquire(1, 1<<63-1), release(1, 1<<63-1), release(1, 1<<63)},
		[]api.Event{acquire(2, 1<<63-1), acquire(2, top), release(2, top), release(2, 1<<63-1)})
	hasRings(t, great, []api.Hold{hold(2, 1<<63-1, top, 11), hold(0, top, 1<<63, 3), hold(1, 1<<63, 1<<63-1, 7)})
	zero := parts(2, []api.Event{acquire(0, top), acquire(0, 0), release(0, 0), release(0, top), acquire(1, 0), acquire(1, top)})
	hasRings(t, zero, []api.Hold{hold(1, 0, top, 6), hold(0, top, 0, 2)})
}

// TestOneGoroutineTwice: no two holds of a ring are of one goroutine, wherever they stand in it.
func TestOneGoroutineTwice(t *testing.T) {
	for n := 2; n <= 4; n++ {
		for a := range n {
			for b := range a {
				run := circle(n, nil)
				for k := range run {
					if run[k].G == a && run[k].Kind != api.Fork {
						run[k].G = b
					}
				}
				names(t, run)
				// With a goroutine more that can stand there it is a ring.
				more := slices.Concat(begin(n+1), run[n-1:], nest(n, a+1, (a+1)%n+1))
				names(t, more, upTo(n))
			}
		}
	}
}

// TestOneOuterTwice: lists of four holds that go over a lock twice are no rings; their halves may be.
func TestOneOuterTwice(t *testing.T) {
	names(t, parts(4, nest(0, 1, 2), nest(1, 2, 1), nest(2, 1, 2), nest(3, 2, 1)), upTo(2))
	names(t, parts(4, nest(0, 1, 2), nest(1, 2, 1), nest(2, 1, 3), nest(3, 3, 1)), upTo(2), []uint64{1, 3})
	// Halves of one goroutine each are none, and the whole is none.
	names(t, parts(4, nest(0, 1, 2), nest(0, 2, 1), nest(1, 1, 3), nest(1, 3, 1)))
	// 1 to 2 to 3 to 2 to 1: only the two in the middle are a ring.
	names(t, parts(4, nest(0, 1, 2), nest(1, 2, 3), nest(2, 3, 2), nest(0, 2, 1)), []uint64{2, 3})
}

// TestReaders: at each place of a ring, a taking to read, and a holding to read of the next one: with both of
// them nobody waits there; with one of them all wait.
func TestReaders(t *testing.T) {
	for n := 2; n <= 4; n++ {
		for place := range n {
			for way := range 4 {
				toRead, heldToRead := way&1 == 1, way&2 == 2
				run := begin(n)
				for g := range n {
					outer, inner := g+1, (g+1)%n+1
					if heldToRead && g == (place+1)%n {
						outer = -outer
					}
					if toRead && g == place {
						inner = -inner
					}
					run = append(run, nest(g, outer, inner)...)
				}
				if toRead && heldToRead {
					names(t, run)
				} else {
					names(t, run, upTo(n))
				}
			}
		}
	}
}

// TestAllReaders: all outer ones to read; all inner ones to read; all.
func TestAllReaders(t *testing.T) {
	for n := 2; n <= 4; n++ {
		for way := range 4 {
			run := begin(n)
			for g := range n {
				locks := []int{g + 1, (g+1)%n + 1}
				if way&1 == 1 {
					locks[0] = -locks[0]
				}
				if way&2 == 2 {
					locks[1] = -locks[1]
				}
				run = append(run, nest(g, locks...)...)
			}
			if way == 3 {
				names(t, run)
				continue
			}
			names(t, run, upTo(n))
			rings, _, _ := deadlock.Cycles(run)
			for _, h := range rings[0] {
				if h.OuterRead != (way == 1) || h.InnerRead != (way == 2) {
					t.Errorf("P21.2: the ring of %v has the hold %v", run, h)
				}
			}
		}
	}
}

// TestGates: a lock that two goroutines of a ring hold, be they neighbours or not, is a gate, unless both hold
// it to read.
func TestGates(t *testing.T) {
	const write, read = 9, -9
	for n := 2; n <= 4; n++ {
		for a := range n {
			for b := range a {
				for _, x := range []struct {
					one, other int
					ring       bool
				}{{write, write, false}, {write, read, false}, {read, write, false}, {read, read, true}} {
					run := circle(n, map[int][]int{a: {x.one}, b: {x.other}})
					if x.ring {
						names(t, run, upTo(n))
					} else {
						names(t, run)
					}
				}
				// Locks of their own are none.
				names(t, circle(n, map[int][]int{a: {write}, b: {8}}), upTo(n))
			}
			names(t, circle(n, map[int][]int{a: {write}}), upTo(n))
			// To read for all, but to write for one.
			all := map[int][]int{}
			for g := range n {
				all[g] = []int{read, -8}
			}
			names(t, circle(n, all), upTo(n))
			all[a] = []int{read, 8}
			names(t, circle(n, all))
		}
	}
}

// TestWhenAGateIsHeld: what counts is what was held ahead of the events At: not what was given back by then, and
// not what was taken behind them.
func TestWhenAGateIsHeld(t *testing.T) {
	other := nest(1, 9, 2, 1)
	before := slices.Concat([]api.Event{acquire(0, 9), acquire(0, 1), release(0, 9), acquire(0, 2), release(0, 2), release(0, 1)}, other)
	names(t, parts(2, before), upTo(2))
	// 0 takes 9 inside, too late to be a gate of 1 and 2; with 2 it is another ring.
	names(t, parts(2, nest(0, 1, 2, 9), other), upTo(2), []uint64{2, 9})
	// Taken ahead of 2 it is one; 1 and 9 are a ring then, as 0 took 9 without holding 2.
	names(t, parts(2, nest(0, 1, 9, 2), other), []uint64{1, 9})
	// To read several times over, and given back but once.
	twice := []api.Event{racquire(0, 9), racquire(0, 9), rrelease(0, 9), acquire(0, 1), acquire(0, 2), release(0, 2), release(0, 1), rrelease(0, 9)}
	names(t, parts(2, twice, other))
	names(t, parts(2, twice, nest(1, -9, 2, 1)), upTo(2))
	once := []api.Event{racquire(0, 9), rrelease(0, 9), acquire(0, 1), acquire(0, 2), release(0, 2), release(0, 1)}
	names(t, parts(2, once, other), upTo(2))
	// Once to write, ahead of that to read.
	names(t, parts(2, nest(0, -9), nest(0, 9, 1, 2), nest(1, -9, 2, 1)))
	names(t, parts(2, nest(0, 9), nest(0, -9, 1, 2), nest(1, -9, 2, 1)), upTo(2))
	names(t, parts(2, nest(0, 9), nest(0, 9, 1, 2), nest(1, 9), nest(1, 2, 1)), upTo(2))
}

// TestGatesOfTheRing: a lock of the ring itself is a gate, if another one than its holder in the ring holds it.
func TestGatesOfTheRing(t *testing.T) {
	names(t, parts(3, nest(0, 3, 1, 2), nest(1, 2, 3), nest(2, 3, 1)), []uint64{2, 3}) // 0 holds 3, too, and takes 2
	names(t, parts(3, nest(0, -3, 1, 2), nest(1, 2, 3), nest(2, 3, 1)), []uint64{2, 3})
	names(t, parts(3, nest(0, -3, 1, 2), nest(1, 2, 3), nest(2, -3, 1)), []uint64{2, 3}, upTo(3))
	names(t, parts(3, nest(0, 1, 2), nest(1, 1, 2, 3), nest(2, 3, 1)), []uint64{1, 3})
	// Goroutine 0 holds 2 to read already when it takes it again.
	again := []api.Event{racquire(0, 2), acquire(0, 1), racquire(0, 2)}
	names(t, parts(2, again, []api.Event{release(0, 1), rrelease(0, 2), rrelease(0, 2)}, nest(1, 2, 1)))
	names(t, parts(2, again, []api.Event{release(0, 1), rrelease(0, 2), rrelease(0, 2)}, nest(1, -2, 1)))
	// Of 2 held to read and 1 taken a ring may be made, with one that takes 2 to write.
	names(t, parts(2, again, []api.Event{release(0, 1), rrelease(0, 2), rrelease(0, 2)}, nest(1, 1, 2)), upTo(2))
}

// TestLeastOfAName: of several rings of one name the one with the least events, the first unlike one tells.
func TestLeastOfAName(t *testing.T) {
	run := parts(3, nest(1, 1, 2), nest(0, 1, 2), nest(2, 2, 1), nest(0, 2, 1))
	hasRings(t, run, []api.Hold{hold(1, 1, 2, 3), hold(2, 2, 1, 11)})

	// The first hold of 1 is of the goroutine that alone holds 2: it can't be in the ring.
	run = parts(2, nest(0, 1, 2), nest(1, 1, 2), nest(0, 2, 1))
	hasRings(t, run, []api.Hold{hold(1, 1, 2, 6), hold(0, 2, 1, 10)})

	// The same holds again and again, of the same goroutines.
	run = parts(2, nest(0, 1, 2), nest(1, 2, 1), nest(0, 1, 2), nest(1, 2, 1))
	hasRings(t, run, []api.Hold{hold(0, 1, 2, 2), hold(1, 2, 1, 6)})

	// The least events are those of the turned ring: the first counts for the lock 1, though it is later.
	run = parts(3, nest(0, 2, 1), nest(1, 1, 2), nest(2, 2, 1))
	hasRings(t, run, []api.Hold{hold(1, 1, 2, 7), hold(0, 2, 1, 3)})

	// A gate stands ahead of the first hold only.
	run = parts(2, nest(0, 9, 1, 2), nest(0, 1, 2), nest(1, 9, 2, 1))
	hasRings(t, run, []api.Hold{hold(0, 1, 2, 8), hold(1, 2, 1, 13)})
	run = parts(2, nest(0, 9, 1, 2), nest(1, 9, 2, 1), nest(1, 2, 1), nest(0, 1, 2))
	hasRings(t, run, []api.Hold{hold(0, 1, 2, 3), hold(1, 2, 1, 14)})

	// The first hold goes with none but a late second one; that is less than a later first with an early second.
	run = parts(4, nest(0, 9, 1, 2), nest(1, 9, 2, 1), nest(2, 1, 2), nest(3, 2, 1))
	hasRings(t, run, []api.Hold{hold(0, 1, 2, 5), hold(3, 2, 1, 20)})

	// One that takes to read comes first, and goes with the one that holds to write.
	run = parts(3, nest(0, 1, -2), nest(1, -2, 1), nest(2, 2, 1))
	hasRings(t, run, []api.Hold{{G: 0, Outer: 1, Inner: 2, InnerRead: true, At: 3}, hold(2, 2, 1, 11)})
	for _, run := range [][]api.Event{run, parts(3, nest(0, 2, 1), nest(1, 1, 2), nest(2, 2, 1))} {
		agrees(t, run, plainCycles)
	}
}

// TestManyAlike: many goroutines that take alike; the ring's are the first ones that are not in it yet.
func TestManyAlike(t *testing.T) {
	for n := 2; n <= 4; n++ {
		for many := n; many < 8; many++ {
			run := begin(many)
			for lock := 1; lock <= n; lock++ {
				for g := range many {
					run = append(run, nest(g, lock, lock%n+1)...)
				}
			}
			rings, _, _ := deadlock.Cycles(run)
			if len(rings) != 1 {
				t.Fatalf("P21.2: %d rings of %d goroutines and %d locks", len(rings), many, n)
			}
			for k, h := range rings[0] { // the k-th lock's first k goroutines are in the ring
				if want := hold(k, uint64(k+1), uint64((k+1)%n+1), many-1+4*(k*many+k)+1); h != want {
					t.Errorf("P21.2: of %d goroutines and %d locks: %v, want %v", many, n, h, want)
				}
			}
			hasRings(t, run, quickCycles(plainHolds(run))...)
		}
	}
}

// TestLighterOfOneGoroutine: one goroutine takes alike in many lighter ways, and stands at the ring's other end:
// then the one that holds more, and comes last, is needed all the same.
func TestLighterOfOneGoroutine(t *testing.T) {
	for n := 1; n < 8; n++ {
		var runs [][]api.Event
		var all []int
		for lock := 11; lock < 11+n; lock++ {
			runs, all = append(runs, nest(1, lock, 1, 2)), append(all, lock)
		}
		runs = append(runs, nest(0, append(all, 1, 2)...), nest(1, 2, 1))
		names(t, parts(2, runs...), upTo(2))
	}
}

// TestOrderOfRings: shorter ones first, those of one length by their names.
func TestOrderOfRings(t *testing.T) {
	run := parts(5,
		nest(0, 11, 12), nest(1, 12, 13), nest(2, 13, 14), nest(3, 14, 11), // of four
		nest(0, 6, 5), nest(1, 5, 6), // of two
		nest(0, 7, 8), nest(1, 8, 9), nest(2, 9, 7), // of three
		nest(0, 1, 9), nest(1, 9, 1), // of two
		nest(0, 1, 20), nest(1, 20, 1), // of two
		nest(0, 2, 3), nest(1, 3, 4), nest(2, 4, 2), // of three
	)
	names(t, run, []uint64{1, 9}, []uint64{1, 20}, []uint64{5, 6}, []uint64{2, 3, 4}, []uint64{7, 8, 9}, []uint64{11, 12, 13, 14})

	// The same locks in unlike orders. (2 and 3 were taken in both orders by one goroutine.)
	both := parts(3, nest(0, 1, 3), nest(1, 3, 2), nest(2, 2, 1), nest(0, 1, 2), nest(1, 2, 3), nest(2, 3, 1))
	names(t, both, []uint64{1, 2}, []uint64{1, 3}, []uint64{1, 2, 3}, []uint64{1, 3, 2})

	// All orders of four locks, by goroutines that are unlike for each.
	var halves [][]api.Event
	for g := range 12 {
		a, b := g/3, g%3
		if b >= a {
			b++
		}
		halves = append(halves, nest(g, a+1, b+1))
	}
	names(t, parts(12, halves...),
		[]uint64{1, 2}, []uint64{1, 3}, []uint64{1, 4}, []uint64{2, 3}, []uint64{2, 4}, []uint64{3, 4},
		[]uint64{1, 2, 3}, []uint64{1, 2, 4}, []uint64{1, 3, 2}, []uint64{1, 3, 4}, []uint64{1, 4, 2}, []uint64{1, 4, 3}, []uint64{2, 3, 4}, []uint64{2, 4, 3},
		[]uint64{1, 2, 3, 4}, []uint64{1, 2, 4, 3}, []uint64{1, 3, 2, 4}, []uint64{1, 3, 4, 2}, []uint64{1, 4, 2, 3}, []uint64{1, 4, 3, 2})
}

// TestGreatNames: names are lists of numbers of 64 bits.
func TestGreatNames(t *testing.T) {
	pair := func(g int, outer, inner uint64) []api.Event {
		return []api.Event{acquire(g, outer), acquire(g, inner), release(g, inner), release(g, outer)}
	}
	numbers := []uint64{0, 1, 1 << 31, 1<<32 + 1, 1<<63 - 1, 1 << 63, top}
	var runs [][]api.Event
	var want [][]uint64
	for k, a := range numbers {
		for _, b := range numbers[k+1:] {
			runs = append(runs, pair(1, b, a), pair(0, a, b))
			want = append(want, []uint64{a, b})
		}
	}
	names(t, parts(2, runs...), want...)
	slices.Reverse(runs)
	names(t, parts(2, runs...), want...)
}
