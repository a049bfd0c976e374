package slice_test

import (
	"math"
	"slices"
	"testing"

	"hindsight/api"
	"hindsight/slice"
)

// judged holds Around of all pairs of places of a run, and of some that are none, against the plain reading. It
// answers how many of them are races.
func judged(t *testing.T, run []api.Event) int {
	t.Helper()
	o, races := orderOf(t, run), 0
	for i := -1; i <= len(run); i++ {
		for j := -1; j <= len(run); j++ {
			if !plainRace(run, o, i, j) {
				noRace(t, run, at(i, j))
				continue
			}
			races++
			part := run[:j+1]
			around(t, run, at(i, j), kept(plainClosed(plainAll(part), chosen(j+1, i, j)))...)
		}
	}
	return races
}

// noPlaces are places of which no run has both.
var noPlaces = []api.Race{
	at(-1, -1), at(math.MinInt, math.MinInt), at(math.MaxInt, math.MaxInt), at(math.MinInt, math.MaxInt), at(math.MaxInt, math.MinInt),
	at(0, math.MaxInt), at(0, math.MinInt), at(math.MaxInt, 0), at(math.MinInt, 0), at(-1, 2), at(2, -1), at(2, 1<<32+4), at(1<<32+2, 4),
}

// TestNoRace: places that are none, turned round, twice the same; events that are no accesses, of one goroutine,
// that only read, of bytes apart, ordered, or with an Alloc or a Free between.
func TestNoRace(t *testing.T) {
	for _, run := range [][]api.Event{nil, one, {mark}} {
		noRace(t, run, noPlaces...)
	}
	noRace(t, one, at(2, 2), at(4, 4), at(4, 2), at(2, 5), at(5, 2), at(2, 6), at(-1, 4), at(2, 3), at(3, 4), at(0, 2))
	run := []api.Event{
		0:  fork(0, 1),
		1:  write(0, 8, 4),
		2:  read(1, 8, 4),   // races with 1
		3:  read(0, 8, 4),   // with none: both only read, and 1 is of its goroutine
		4:  write(1, 12, 1), // with none: it is right behind
		5:  write(0, 7, 1),  // with none: it is right ahead
		6:  ev(0, api.Store, 5, 0),
		7:  ev(1, api.Load, 5, 0),
		8:  write(1, 8, 4), // with none: all ahead of it is known
		9:  alloc(1, 8, 3),
		10: read(0, 8, 3),  // with none: a new life
		11: write(0, 9, 3), // with 2 and 8, of the byte 11
		12: free(0, 8, 3),
		13: write(1, 8, 3), // with none
	}
	if n := judged(t, run); n != 3 {
		t.Errorf("%d races", n)
	}
	around(t, run, at(1, 2), 0, 1, 2)
	around(t, run, at(2, 11), 0, 2, 11)
	around(t, run, at(8, 11), 0, 8, 11)
}

// TestUnreported: each race is one, also where race.All tells a later one with the same second access.
func TestUnreported(t *testing.T) {
	run := []api.Event{fork(0, 1), write(1, 8, 1), write(1, 8, 1), acquire(1, 5), read(1, 8, 1), release(1, 5), write(0, 8, 1), write(0, 8, 1)}
	for _, second := range []int{6, 7} {
		for _, first := range []int{1, 2, 4} {
			around(t, run, at(first, second), 0, first, second)
		}
	}
	if n := judged(t, run); n != 6 {
		t.Errorf("%d races", n)
	}
}

// TestBehindTheRace: what comes behind the second event is not there, so nothing needs it.
func TestBehindTheRace(t *testing.T) {
	// A Fork's goroutine that goes on; a race that comes later.
	around(t, append(slices.Clone(one), mark, write(1, 8, 4), read(0, 8, 4)), at(2, 4), 0, 2, 4)
	// A Send of which the Ack comes later: the second access is by one that was begun behind that Send's Recv.
	run := []api.Event{
		0: fork(0, 1),
		1: create(1, 3, 0),
		2: send(1, 3),
		3: recv(0, 3),
		4: fork(0, 2),
		5: write(2, 8, 1),
		6: write(0, 8, 1),
		7: ack(1, 3),
		8: mark,
	}
	around(t, run, at(5, 6), 4, 5, 6)
	if n := judged(t, run); n != 1 {
		t.Errorf("%d races", n)
	}
	// All ahead of the race is left as it is, if it is needed; what is held is given back later.
	deep := []api.Event{acquire(0, 5), fork(0, 1), fork(1, 2), write(2, 8, 8), racquire(1, 6), write(1, 15, 1), release(0, 5), rrelease(1, 6), join(0, 2), read(0, 8, 1)}
	around(t, deep, at(3, 5), 1, 2, 3, 5)
	if got, _, _, _ := slice.Around(deep, at(3, 5)); len(got) != 4 || got[3].Kind != api.Write || got[3].G != 1 {
		t.Errorf("P22.7: Around = %v", got)
	}
}

// TestEndsOfMemory: races at the least and the greatest byte, and of the longest accesses.
func TestEndsOfMemory(t *testing.T) {
	run := []api.Event{fork(0, 1), write(1, top, 1), write(1, 0, 64), read(0, top-63, 64), write(0, 63, 1), read(0, 64, 1), write(1, top-62, 62)}
	around(t, run, at(1, 3), 0, 1, 3)
	around(t, run, at(2, 4), 0, 2, 4)
	around(t, run, at(3, 6), 0, 3, 6)
	if n := judged(t, run); n != 3 {
		t.Errorf("%d races", n)
	}
}
