package slice_test

import (
	"testing"

	"hindsight/api"
)

// each fails if Closed of one place of a run keeps others than a row says, place by place.
func each(t *testing.T, run []api.Event, want ...[]int) {
	t.Helper()
	isRun(t, run, "the test")
	if len(want) != len(run) {
		t.Fatalf("%d rows for %d events", len(want), len(run))
	}
	for place, row := range want {
		closes(t, run, []int{place}, row...)
	}
}

// TestGoroutines: the first need. What happens to a goroutine else, its Forks' order, its Join, is not needed.
func TestGoroutines(t *testing.T) {
	each(t, []api.Event{fork(0, 1), fork(1, 2), fork(2, 3), ev(3, api.Mark, 0, 0), ev(0, api.Mark, 0, 0), ev(1, api.Mark, 0, 0)},
		[]int{0}, []int{0, 1}, []int{0, 1, 2}, []int{0, 1, 2, 3}, []int{4}, []int{0, 5})
	// Of unlike goroutines, and of the greatest one.
	each(t, []api.Event{fork(0, api.MaxG-1), fork(0, 2), fork(api.MaxG-1, 1), read(2, 8, 1), read(1, 8, 1)},
		[]int{0}, []int{1}, []int{0, 2}, []int{1, 3}, []int{0, 2, 4})
	// Several events of one goroutine don't need each other.
	each(t, []api.Event{fork(0, 1), ev(1, api.Load, 7, 0), ev(1, api.Store, 7, 0), ev(1, api.Swap, 7, 0)},
		[]int{0}, []int{0, 1}, []int{0, 2}, []int{0, 3})
}

// TestJoins: the Fork of the one that is joined, and not its events; the goroutine 0 has none.
func TestJoins(t *testing.T) {
	each(t, []api.Event{fork(0, 1), ev(1, api.Mark, 0, 0), join(0, 1)},
		[]int{0}, []int{0, 1}, []int{0, 2})
	each(t, []api.Event{fork(0, 1), fork(0, 2), join(2, 1), join(2, 0), ev(2, api.Mark, 0, 0)},
		[]int{0}, []int{1}, []int{0, 1, 2}, []int{1, 3}, []int{1, 4})
	// One that another goroutine begot.
	each(t, []api.Event{fork(0, 1), fork(1, 2), fork(2, 3), join(0, 3), join(1, 2), join(0, 1)},
		[]int{0}, []int{0, 1}, []int{0, 1, 2}, []int{0, 1, 2, 3}, []int{0, 1, 4}, []int{0, 5})
	closes(t, []api.Event{mark, fork(0, 1), join(1, 0), ev(1, api.Mark, 0, 0)}, []int{2}, 1, 2)
}

// TestLocks: the second need.
func TestLocks(t *testing.T) {
	each(t, []api.Event{acquire(0, 5), acquire(0, 6), release(0, 5), acquire(0, 5), release(0, 6), mark, release(0, 5), acquire(0, 5)},
		[]int{0, 2}, []int{1, 4}, []int{0, 2}, []int{3, 6}, []int{1, 4}, []int{5}, []int{3, 6}, []int{7})
	// One lock goes from hand to hand; each needs its own Fork.
	each(t, []api.Event{fork(0, 1), acquire(0, 5), release(0, 5), acquire(1, 5), release(1, 5), acquire(0, 5), release(0, 5), acquire(1, 5)},
		[]int{0}, []int{1, 2}, []int{1, 2}, []int{0, 3, 4}, []int{0, 3, 4}, []int{5, 6}, []int{5, 6}, []int{0, 7})
	// A goroutine that was joined holds its lock for ever.
	each(t, []api.Event{fork(0, 1), acquire(1, 5), join(0, 1), acquire(0, 6), release(0, 6)},
		[]int{0}, []int{0, 1}, []int{0, 2}, []int{3, 4}, []int{3, 4})
}

// TestReaders: the third need.
func TestReaders(t *testing.T) {
	// Three deep, given back and taken again between.
	each(t, []api.Event{racquire(0, 5), racquire(0, 5), rrelease(0, 5), racquire(0, 5), racquire(0, 5), rrelease(0, 5), rrelease(0, 5), rrelease(0, 5), racquire(0, 5)},
		[]int{0, 7}, []int{1, 2}, []int{1, 2}, []int{3, 6}, []int{4, 5}, []int{4, 5}, []int{3, 6}, []int{0, 7}, []int{8})
	// Some are never given back: the earlier ones.
	each(t, []api.Event{racquire(0, 5), racquire(0, 5), racquire(0, 5), rrelease(0, 5)},
		[]int{0}, []int{1}, []int{2, 3}, []int{2, 3})
	// Several goroutines, each with its own.
	each(t, []api.Event{fork(0, 1), racquire(0, 5), racquire(1, 5), racquire(0, 5), rrelease(1, 5), rrelease(0, 5), racquire(1, 5), rrelease(0, 5)},
		[]int{0}, []int{1, 7}, []int{0, 2, 4}, []int{3, 5}, []int{0, 2, 4}, []int{3, 5}, []int{0, 6}, []int{1, 7})
	// Unlike locks of one goroutine, and one that is taken to read and to write in turns.
	each(t, []api.Event{racquire(0, 5), racquire(0, 6), rrelease(0, 5), acquire(0, 5), rrelease(0, 6), release(0, 5), racquire(0, 5), rrelease(0, 5)},
		[]int{0, 2}, []int{1, 4}, []int{0, 2}, []int{3, 5}, []int{1, 4}, []int{3, 5}, []int{6, 7}, []int{6, 7})
	// To write by one, to read by another.
	each(t, []api.Event{fork(0, 1), acquire(0, 5), release(0, 5), racquire(1, 5), rrelease(1, 5), acquire(0, 5), release(0, 5)},
		[]int{0}, []int{1, 2}, []int{1, 2}, []int{0, 3, 4}, []int{0, 3, 4}, []int{5, 6}, []int{5, 6})
}

// TestChannelsWithRoom: the fourth need; what comes behind an event it does not need.
func TestChannelsWithRoom(t *testing.T) {
	each(t, []api.Event{create(0, 3, 2), send(0, 3), mark, send(0, 3), recv(0, 3), shut(0, 3), recv(0, 3), drained(0, 3), drained(0, 3)},
		[]int{0}, []int{0, 1}, []int{2}, []int{0, 1, 3}, []int{0, 1, 3, 4}, []int{0, 1, 3, 4, 5}, []int{0, 1, 3, 4, 5, 6}, []int{0, 1, 3, 4, 5, 6, 7}, []int{0, 1, 3, 4, 5, 6, 7, 8})
	// Two channels, and the Forks of those that use them.
	each(t, []api.Event{create(0, 3, 1), fork(0, 1), create(1, 4, 1), send(1, 3), send(0, 4), recv(0, 3), recv(0, 4), send(0, 3)},
		[]int{0}, []int{1}, []int{1, 2}, []int{0, 1, 3}, []int{1, 2, 4}, []int{0, 1, 3, 5}, []int{1, 2, 4, 6}, []int{0, 1, 3, 5, 7})
	// A Send that stays in the channel needs nothing behind it, whatever its goroutine does next.
	each(t, []api.Event{create(0, 3, 1), send(0, 3), create(0, 4, 0), mark, acquire(0, 3)},
		[]int{0}, []int{0, 1}, []int{2}, []int{3}, []int{4})
}

// TestChannelsWithoutRoom: a Send and its Ack need each other.
func TestChannelsWithoutRoom(t *testing.T) {
	// A Send whose goroutine has no further event, and a Close, behind which an Ack may come.
	each(t, []api.Event{fork(0, 1), fork(0, 2), create(0, 3, 0), send(1, 3), recv(0, 3), shut(0, 3), drained(0, 3), ack(1, 3)},
		[]int{0}, []int{1}, []int{2}, []int{0, 2, 3, 4, 5, 6, 7}, []int{0, 2, 3, 4, 5, 6, 7}, []int{0, 2, 3, 4, 5, 6, 7}, []int{0, 2, 3, 4, 5, 6, 7}, []int{0, 2, 3, 4, 5, 6, 7})
	each(t, []api.Event{fork(0, 1), create(0, 3, 0), send(1, 3), mark, recv(0, 3), mark},
		[]int{0}, []int{1}, []int{0, 1, 2}, []int{3}, []int{0, 1, 2, 4}, []int{5})
	// Two senders; the later one's Ack comes first, and the earlier one's brings it in.
	each(t, []api.Event{fork(0, 1), fork(0, 2), create(0, 3, 0), send(1, 3), send(2, 3), recv(0, 3), recv(0, 3), ack(2, 3), ack(1, 3)},
		[]int{0}, []int{1}, []int{2}, []int{0, 1, 2, 3, 4, 5, 6, 7, 8}, []int{0, 1, 2, 3, 4, 5, 6, 7, 8}, []int{0, 1, 2, 3, 4, 5, 6, 7, 8}, []int{0, 1, 2, 3, 4, 5, 6, 7, 8}, []int{0, 1, 2, 3, 4, 5, 6, 7, 8}, []int{0, 1, 2, 3, 4, 5, 6, 7, 8})
	// The second round is not needed by the first.
	each(t, []api.Event{fork(0, 1), create(0, 3, 0), send(1, 3), recv(0, 3), ack(1, 3), send(1, 3), recv(0, 3)},
		[]int{0}, []int{1}, []int{0, 1, 2, 3, 4}, []int{0, 1, 2, 3, 4}, []int{0, 1, 2, 3, 4}, []int{0, 1, 2, 3, 4, 5}, []int{0, 1, 2, 3, 4, 5, 6})
	// One goroutine sends on two channels in turns, one of them with room.
	each(t, []api.Event{fork(0, 1), create(0, 3, 0), create(0, 4, 1), send(1, 4), send(1, 3), recv(0, 3), ack(1, 3), recv(0, 4)},
		[]int{0}, []int{1}, []int{2}, []int{0, 2, 3}, []int{0, 1, 4, 5, 6}, []int{0, 1, 4, 5, 6}, []int{0, 1, 4, 5, 6}, []int{0, 2, 3, 7})
}

// TestWaitGroups: the fifth need; Waits are not needed.
func TestWaitGroups(t *testing.T) {
	each(t, []api.Event{wait(0, 4), more(0, 4, 2), more(0, 5, 1), less(0, 4, 2), wait(0, 4), wait(0, 4), more(0, 4, 1), less(0, 5, 1), wait(0, 5), ev(0, api.Add, 4, 0)},
		[]int{0}, []int{1}, []int{2}, []int{1, 3}, []int{1, 3, 4}, []int{1, 3, 5}, []int{1, 3, 6}, []int{2, 7}, []int{2, 7, 8}, []int{1, 3, 6, 9})
	// Adds of others, and their Forks.
	each(t, []api.Event{more(0, 4, 2), fork(0, 1), fork(0, 2), less(1, 4, 1), less(2, 4, 1), wait(0, 4)},
		[]int{0}, []int{1}, []int{2}, []int{0, 1, 3}, []int{0, 1, 2, 3, 4}, []int{0, 1, 2, 3, 4, 5})
}

// TestOnces: the sixth need.
func TestOnces(t *testing.T) {
	each(t, []api.Event{fork(0, 1), ran(1, 8), ran(0, 9), had(0, 8), had(0, 8), had(1, 9), had(0, 9)},
		[]int{0}, []int{0, 1}, []int{2}, []int{0, 1, 3}, []int{0, 1, 4}, []int{0, 2, 5}, []int{2, 6})
}

// TestLives: the seventh need.
func TestLives(t *testing.T) {
	each(t, []api.Event{alloc(0, 8, 4), free(0, 8, 4), alloc(0, 8, 2), alloc(0, 10, 2), free(0, 8, 2), free(0, 10, 2), alloc(0, 8, 4), free(0, 8, 4), alloc(0, 8, 2)},
		[]int{0, 1}, []int{0, 1}, []int{2, 4}, []int{3, 5}, []int{2, 4}, []int{3, 5}, []int{6, 7}, []int{6, 7}, []int{8})
	// One goroutine's, which another one ends.
	each(t, []api.Event{fork(0, 1), alloc(1, 8, 4), free(0, 8, 4), alloc(0, 8, 4), free(1, 8, 4)},
		[]int{0}, []int{0, 1, 2}, []int{0, 1, 2}, []int{0, 3, 4}, []int{0, 3, 4})
	// The greatest ones.
	each(t, []api.Event{alloc(0, top, 1), alloc(0, 0, api.MaxLife), free(0, top, 1), alloc(0, top-1, 2), free(0, 0, api.MaxLife), free(0, top-1, 2)},
		[]int{0, 2}, []int{1, 4}, []int{0, 2}, []int{3, 5}, []int{1, 4}, []int{3, 5})
	// An access within needs nothing.
	each(t, []api.Event{alloc(0, 8, 4), write(0, 8, 4), free(0, 8, 4), read(0, 8, 4)},
		[]int{0, 2}, []int{1}, []int{0, 2}, []int{3})
}

// TestSortsApart: one number of all sorts: they have nothing to do with each other.
func TestSortsApart(t *testing.T) {
	run := []api.Event{fork(0, 3), acquire(0, 3), create(0, 3, 1), more(0, 3, 1), ran(0, 3), ev(0, api.Store, 3, 0), alloc(0, 3, 3), ev(0, api.Mark, 3, 3), read(0, 3, 3), send(0, 3), less(0, 3, 1), had(0, 3), ev(0, api.Load, 3, 0), release(0, 3), free(0, 3, 3), wait(0, 3), join(0, 3)}
	each(t, run, []int{0}, []int{1, 13}, []int{2}, []int{3}, []int{4}, []int{5}, []int{6, 14}, []int{7}, []int{8}, []int{2, 9}, []int{3, 10}, []int{4, 11}, []int{12}, []int{1, 13}, []int{6, 14}, []int{3, 10, 15}, []int{0, 16})
	zero := []api.Event{acquire(0, 0), create(0, 0, 1), more(0, 0, 1), ran(0, 0), send(0, 0), had(0, 0), less(0, 0, 1), wait(0, 0), recv(0, 0), release(0, 0), fork(0, 1), join(1, 0), ev(1, api.Mark, 0, 0)}
	each(t, zero, []int{0, 9}, []int{1}, []int{2}, []int{3}, []int{1, 4}, []int{3, 5}, []int{2, 6}, []int{2, 6, 7}, []int{1, 4, 8}, []int{0, 9}, []int{10}, []int{10, 11}, []int{10, 12})
}

// TestSeveralTogether: needs that bring in others, of other sorts, forwards and backwards.
func TestSeveralTogether(t *testing.T) {
	run := []api.Event{
		0:  mark,
		1:  fork(0, 1),
		2:  acquire(1, 5),
		3:  fork(1, 2),
		4:  create(0, 7, 0),
		5:  more(2, 4, 1),
		6:  send(2, 7),
		7:  write(1, 8, 1),
		8:  recv(1, 7),
		9:  ack(2, 7),
		10: less(2, 4, 1),
		11: release(1, 5),
		12: wait(0, 4),
		13: alloc(0, 100, 8),
		14: racquire(2, 5),
		15: free(2, 100, 8),
		16: rrelease(2, 5),
		17: join(0, 2),
		18: join(0, 1),
	}
	closes(t, run, []int{12}, 1, 3, 5, 10, 12)
	closes(t, run, []int{6}, 1, 3, 4, 6, 8, 9)
	closes(t, run, []int{13}, 1, 3, 13, 15)
	closes(t, run, []int{14, 12}, 1, 3, 5, 10, 12, 14, 16)
	closes(t, run, []int{2, 0}, 0, 1, 2, 11)
	closes(t, run, []int{17, 18, 7}, 1, 3, 7, 17, 18)
	closes(t, run, []int{4}, 4)
	closes(t, run, []int{0, 1, 2, 3, 4, 5, 6, 7, 8, 9, 10, 11, 12, 13, 14, 15, 16, 17, 18}, 0, 1, 2, 3, 4, 5, 6, 7, 8, 9, 10, 11, 12, 13, 14, 15, 16, 17, 18)
	closes(t, run, nil)
}
