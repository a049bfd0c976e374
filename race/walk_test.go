package race_test

import (
	"testing"

	"hindsight/api"
	"hindsight/samples"
)

// walk holds all runs of so many moves behind a beginning. It fails if there are fewer than a test is to see.
func walk(t *testing.T, least int, beginning []api.Event, depth int, moves ...api.Event) {
	t.Helper()
	if runs := samples.Walk(beginning, depth, moves, func(run []api.Event) { holds(t, run) }); runs < least {
		t.Errorf("the test met %d runs only", runs)
	}
}

// TestAllAtOneByte: who reads and writes one byte, and what is given from one to the other between.
func TestAllAtOneByte(t *testing.T) {
	moves := []api.Event{read(0, 8, 1), write(0, 8, 1), ev(0, api.Store, 5, 0), ev(0, api.Load, 5, 0)}
	walk(t, 10000, []api.Event{fork1}, 5, samples.Each(2, moves...)...)
	walk(t, 10000, []api.Event{fork1, fork2}, 4, samples.Each(3, moves...)...)
}

// TestAllWithLocks: a lock that is taken to read or to write, and one byte.
func TestAllWithLocks(t *testing.T) {
	walk(t, 3000, []api.Event{fork1}, 6, samples.Each(2, write(0, 8, 1), acquire(0), release(0), racquire(0), rrelease(0))...)
}

// TestAllAtTwoBytes: accesses to one byte, to the next one, to both; at the end of a line.
func TestAllAtTwoBytes(t *testing.T) {
	walk(t, 5000, []api.Event{fork1}, 4, samples.Each(2, read(0, 63, 1), write(0, 63, 1), read(0, 64, 1), write(0, 64, 1), read(0, 63, 2), write(0, 63, 2))...)
	walk(t, 5000, []api.Event{fork1, fork2}, 4, samples.Each(3, write(0, 8, 1), read(0, 9, 1), read(0, 8, 2), write(0, 8, 2))...)
}

// TestAllWithLives: bytes that are touched, given a new life, and touched again.
func TestAllWithLives(t *testing.T) {
	walk(t, 5000, []api.Event{fork1}, 5, append(samples.Each(2, write(0, 63, 1), read(0, 64, 1), write(0, 63, 2)), ev(0, api.Alloc, 63, 1), ev(1, api.Free, 63, 1), ev(0, api.Alloc, 63, 2), ev(1, api.Alloc, 64, 3))...)
}
