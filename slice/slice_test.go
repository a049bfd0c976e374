package slice_test

import (
	"math"
	"slices"
	"testing"

	"hindsight/api"
	"hindsight/slice"
)

// one is the run of the chapter's first example.
var one = []api.Event{fork(0, 1), acquire(0, 5), write(1, 8, 4), release(0, 5), read(0, 8, 4)}

// TestExamples: those of the chapter, one by one.
func TestExamples(t *testing.T) {
	closes(t, one, []int{2}, 0, 2)
	closes(t, one, []int{1}, 1, 3)
	closes(t, one, nil)
	around(t, one, at(2, 4), 0, 2, 4)

	room := []api.Event{create(0, 3, 1), send(0, 3), recv(0, 3), send(0, 3), shut(0, 3)}
	closes(t, room, []int{3}, 0, 1, 2, 3)
	closes(t, room, []int{1}, 0, 1)

	meet := []api.Event{create(0, 3, 0), fork(0, 1), send(0, 3), recv(1, 3), ack(0, 3)}
	closes(t, meet, []int{2}, 0, 1, 2, 3, 4)

	readers := []api.Event{racquire(0, 5), racquire(0, 5), rrelease(0, 5), rrelease(0, 5)}
	closes(t, readers, []int{0}, 0, 3)
	closes(t, readers, []int{2}, 1, 2)

	counted := []api.Event{ev(0, api.Add, 4, 4), ev(0, api.Add, 4, 3), ev(0, api.Wait, 4, 0)}
	closes(t, counted, []int{2}, 0, 1, 2)
	closes(t, counted, []int{0}, 0)
	closes(t, counted, []int{1}, 0, 1)

	lives := []api.Event{alloc(0, 8, 4), free(0, 8, 4), alloc(0, 8, 4)}
	closes(t, lives, []int{2}, 2)
	closes(t, lives, []int{1}, 0, 1)

	leaves(t, one, 8, 8, 0, 1, 2, 3, 4)
	leaves(t, one, 12, 20, 0, 1, 3)
	leaves(t, one, 9, 8, 0, 1, 3)
	begins(t, one, 5)
	noPrefix(t, one, 6, -1)
	noChoice(t, one, make([]bool, 4))

	noRace(t, one, at(0, 4), at(4, 2), at(-1, 9))
	if got, place, fault := slice.Closed([]api.Event{ev(1, api.Mark, 0, 0)}, make([]bool, 1)); len(got) != 0 || place != 0 || fault != api.ErrBad {
		t.Errorf("P22.3: of no run: %v, %d, %d", got, place, fault)
	}
}

// begins fails if Prefix does not answer the first n events.
func begins(t *testing.T, trace []api.Event, n int) {
	t.Helper()
	if got, fault := slice.Prefix(trace, n); !sameEvents(got, trace[:n]) || fault != api.OK {
		t.Errorf("P22.1: Prefix(%v, %d) = %v, %d", trace, n, got, fault)
	}
}

// noPrefix fails if Prefix takes one of some numbers.
func noPrefix(t *testing.T, trace []api.Event, numbers ...int) {
	t.Helper()
	for _, n := range numbers {
		if got, fault := slice.Prefix(trace, n); len(got) != 0 || fault != api.ErrKeep {
			t.Errorf("P22.1: Prefix(%v, %d) = %v, %d", trace, n, got, fault)
		}
	}
}

// takes fails if Take does not answer the events at some places.
func takes(t *testing.T, trace []api.Event, places ...int) {
	t.Helper()
	got, gotPlaces, fault := slice.Take(trace, chosen(len(trace), places...))
	if !sameEvents(got, picked(trace, places)) || !slices.Equal(gotPlaces, places) || fault != api.OK {
		t.Errorf("P22.2: Take(%v, %v) = %v, %v, %d", trace, places, got, gotPlaces, fault)
	}
}

// noChoice fails if Take takes a list, or Closed does, of a run.
func noChoice(t *testing.T, run []api.Event, keep []bool) {
	t.Helper()
	if got, places, fault := slice.Take(run, keep); len(got) != 0 || len(places) != 0 || fault != api.ErrKeep {
		t.Errorf("P22.2: Take of %d events and %d truths = %v, %v, %d", len(run), len(keep), got, places, fault)
	}
	if got, place, fault := slice.Closed(run, keep); len(got) != 0 || place != 0 || fault != api.ErrKeep {
		t.Errorf("P22.3: Closed of %d events and %d truths = %v, %d, %d", len(run), len(keep), got, place, fault)
	}
}

// strange is a trace that is no run, out of bounds too: Prefix and Take don't ask.
var strange = []api.Event{
	{G: -5, Kind: 99, Obj: top, Arg: top, Stack: []string{"x", "", "\xff"}},
	release(7, 7),
	{},
	{G: 1, Kind: api.Read, Obj: 8, Stack: make([]string, 99)},
	join(0, 0),
}

func TestPrefix(t *testing.T) {
	for _, trace := range [][]api.Event{nil, {}, one, strange, one[:1], strange[:1]} {
		for n := range len(trace) + 1 {
			begins(t, trace, n)
		}
		noPrefix(t, trace, -1, -2, len(trace)+1, len(trace)+2, math.MaxInt, math.MinInt, 1<<32, -1<<32)
	}
	noPrefix(t, slices.Clone(one)[:3], 4, 5) // the spare room behind it is not asked
}

// TestTake: all choices of a few events.
func TestTake(t *testing.T) {
	for _, trace := range [][]api.Event{nil, {}, one, strange, one[:1]} {
		for which := range 1 << len(trace) {
			var places []int
			for place := range trace {
				if which>>place&1 == 1 {
					places = append(places, place)
				}
			}
			takes(t, trace, places...)
		}
	}
}

// TestNoChoice: lists that are too short and too long, whatever is in them.
func TestNoChoice(t *testing.T) {
	for n := range len(one) + 1 {
		for size := range 9 {
			if size == n {
				continue
			}
			noChoice(t, one[:n], make([]bool, size))
			noChoice(t, one[:n], slices.Repeat([]bool{true}, size))
			noChoice(t, one[:n], make([]bool, size, 9)) // room for more is no more
		}
	}
	noChoice(t, one, nil)
	noChoice(t, nil, []bool{false})
	if got, places, fault := slice.Take(strange, make([]bool, 1)); len(got) != 0 || len(places) != 0 || fault != api.ErrKeep {
		t.Errorf("P22.2: Take = %v, %v, %d", got, places, fault)
	}
}

// TestNoEvents: the trace without events.
func TestNoEvents(t *testing.T) {
	for _, trace := range [][]api.Event{nil, {}} {
		for _, keep := range [][]bool{nil, {}} {
			closes(t, trace, nil)
			if got, place, fault := slice.Closed(trace, keep); len(got) != 0 || place != -1 || fault != api.OK {
				t.Errorf("P22.3: Closed = %v, %d, %d", got, place, fault)
			}
			if got, places, fault := slice.Take(trace, keep); len(got) != 0 || len(places) != 0 || fault != api.OK {
				t.Errorf("P22.2: Take = %v, %v, %d", got, places, fault)
			}
		}
		begins(t, trace, 0)
		leaves(t, trace, 0, top)
		leaves(t, trace, 1, 0)
		noRace(t, trace, at(0, 0), at(0, 1), at(-1, 0), at(-1, -1), at(math.MinInt, math.MaxInt))
	}
}

// TestOnly: one byte, the edges of an access, numbers turned round, the greatest ones.
func TestOnly(t *testing.T) {
	run := []api.Event{fork(0, 1), write(1, 8, 4), mark, read(0, 12, 1), alloc(0, 8, 4), write(0, 0, 64), read(1, top, 1), write(1, top-63, 64), free(0, 8, 4), ev(0, api.Store, 9, 0)}
	others := []int{0, 2, 4, 8, 9}
	edges := []uint64{0, 1, 7, 8, 9, 10, 11, 12, 13, 62, 63, 64, 65, 1 << 63, top - 65, top - 64, top - 63, top - 62, top - 1, top}
	for _, lo := range edges {
		for _, hi := range edges {
			want := plainOnly(run, lo, hi)
			leaves(t, run, lo, hi, want...)
			if lo > hi && !slices.Equal(want, others) {
				t.Errorf("the plain reading leaves %v", want)
			}
		}
	}
	leaves(t, run, 8, 8, 0, 1, 2, 4, 5, 8, 9)
	leaves(t, run, 11, 12, 0, 1, 2, 3, 4, 5, 8, 9)
	leaves(t, run, 12, 12, 0, 2, 3, 4, 5, 8, 9)
	leaves(t, run, 64, top-64, others...)
	leaves(t, run, 64, top-63, 0, 2, 4, 7, 8, 9)
	leaves(t, run, 63, top-64, 0, 2, 4, 5, 8, 9)
	leaves(t, run, top, top, 0, 2, 4, 6, 7, 8, 9)
	leaves(t, run, 0, top, 0, 1, 2, 3, 4, 5, 6, 7, 8, 9)
	leaves(t, run, top, 0, others...)
	leaves(t, run, 10, 9, others...) // both edges lie within accesses
	leaves(t, run, 1<<63, 1<<63-1, others...)
}
