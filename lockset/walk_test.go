package lockset_test

import (
	"testing"

	"hindsight/api"
	"hindsight/samples"
)

// walk holds all runs of so many moves behind a beginning. It fails if there are fewer than a test is to see.
func walk(t *testing.T, least int, beginning []api.Event, depth int, moves ...api.Event) {
	t.Helper()
	if runs := samples.Walk(beginning, depth, moves, func(run []api.Event) { holds(t, run) }); runs < least {
		t.Errorf("the test met %d runs only", runs)
	}
}

// TestAllWithOneLock: who reads and writes one byte, and a lock that is taken to read or to write.
func TestAllWithOneLock(t *testing.T) {
	moves := []api.Event{read(0, 8, 1), write(0, 8, 1), acquire(0, 5), release(0, 5), racquire(0, 5), rrelease(0, 5)}
	walk(t, 10000, []api.Event{fork1, write(0, 8, 1)}, 5, samples.Each(2, moves...)...)
	walk(t, 5000, []api.Event{fork1, write(0, 8, 1), racquire(1, 5), racquire(1, 5)}, 5, samples.Each(2, moves...)...)
	walk(t, 10000, run(), 4, samples.Each(3, moves...)...)
}

// TestAllWithTwoLocks: two locks, and what is left of them.
func TestAllWithTwoLocks(t *testing.T) {
	moves := []api.Event{write(1, 8, 1), read(1, 8, 1), write(0, 8, 1), release(1, 5), release(1, 6), acquire(0, 5), acquire(1, 5), racquire(0, 6), racquire(1, 6), rrelease(1, 6)}
	walk(t, 5000, run(write(0, 8, 1), acquire(1, 5), acquire(1, 6)), 5, moves...)
}

// TestAllAtTwoBytes: accesses to one byte, to the next one, to both; at the end of a line.
func TestAllAtTwoBytes(t *testing.T) {
	walk(t, 10000, []api.Event{fork1}, 4, samples.Each(2, read(0, 63, 1), write(0, 63, 1), read(0, 64, 1), write(0, 64, 1), read(0, 63, 2), write(0, 63, 2))...)
	walk(t, 10000, []api.Event{fork1}, 5, samples.Each(2, write(0, 8, 1), read(0, 9, 1), read(0, 8, 2), write(0, 8, 2), acquire(0, 5), release(0, 5))...)
}

// TestAllWithLives: bytes that are touched, given a new life, and touched again.
func TestAllWithLives(t *testing.T) {
	walk(t, 10000, []api.Event{fork1}, 5, append(samples.Each(2, write(0, 63, 1), read(0, 64, 1), write(0, 63, 2)), alloc(0, 63, 1), free(1, 63, 1), alloc(0, 63, 2), alloc(1, 64, 3), acquire(1, 5))...)
}
