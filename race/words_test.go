package race_test

import (
	"slices"
	"testing"

	"hindsight/api"
	"hindsight/race"
)

// TestWords: behind accesses that touch the same bytes, others, some of both; behind Allocs and Frees; and
// behind what was refused, and what is no access.
func TestWords(t *testing.T) {
	const top = 1<<64 - 1
	d := race.New()
	if d.Words() != 0 {
		t.Fatalf("P19.4: at first Words = %d", d.Words())
	}
	var run []api.Event
	for _, x := range []struct {
		e     api.Event
		words int
	}{
		{fork1, 0}, {mark, 0}, {ev(0, api.Store, 8, 0), 0},
		{write(1, 8, 4), 4}, {write(1, 8, 4), 4}, {read(1, 8, 4), 4}, {read(0, 8, 4), 4}, {read(0, 9, 2), 4},
		{write(0, 10, 4), 6}, {read(1, 12, 1), 6}, {read(1, 14, 1), 7}, {read(0, 7, 8), 8},
		{write(0, 60, 8), 16}, {write(0, 64, 64), 76}, {write(1, 63, 64), 76},
		{write(0, 0, 1), 77}, {write(0, top, 1), 78}, {read(1, top-63, 64), 141},
		{ev(0, api.Alloc, 9, 1), 140}, {ev(0, api.Alloc, 10, 1), 139}, {ev(1, api.Free, 10, 1), 139},
		{write(1, 10, 1), 140}, {ev(0, api.Free, 9, 1), 140}, {ev(0, api.Alloc, 20, 40), 140},
		{ev(0, api.Alloc, 60, 4), 136}, {ev(0, api.Alloc, 64, 1), 135}, {ev(0, api.Alloc, 66, 200), 73},
		{read(0, 66, 1), 74}, {ev(1, api.Free, 66, 200), 73}, {ev(1, api.Alloc, top-1, 2), 71},
		{ev(1, api.Alloc, 0, 9), 68}, {ev(0, api.Free, 0, 9), 68}, {join1, 68},
		{ev(0, api.Free, 20, 40), 68}, {ev(0, api.Free, 60, 4), 68}, {ev(0, api.Free, 64, 1), 68},
		{ev(0, api.Alloc, 0, api.MaxLife), 62}, {ev(0, api.Alloc, top-100, 99), 0}, {write(0, 5, 3), 3},
	} {
		added(t, d, x.e, second(firsts(t, append(run, x.e)), len(run))...)
		run = append(run, x.e)
		for _, other := range []api.Event{{}, ev(9, api.Write, 500, 1), ev(0, api.Write, 500, 65), fork1, ev(0, api.Free, 8, 1), ev(0, api.Alloc, 8, 70000)} {
			if d.Words() != x.words {
				t.Fatalf("P19.4: behind %v: Words = %d, want %d", run, d.Words(), x.words)
			}
			if _, fault := d.Add(other); fault == api.OK {
				t.Fatalf("P19.3: behind %v: %v is taken", run, other)
			}
		}
	}
	holds(t, run)
}

// firsts are the races of a run by the plain reading.
func firsts(t *testing.T, run []api.Event) []api.Race {
	t.Helper()
	return newPlain(t, run).reported()
}

// TestWordsOfEach: one access of each size at each place of two lines, and one that lies over it in part.
func TestWordsOfEach(t *testing.T) {
	for address := range uint64(130) {
		for _, size := range []uint64{1, 3, 32, 63, 64} {
			for _, shift := range []uint64{0, 1, 31, 64} {
				d := race.New()
				d.Add(write(0, address, size))
				alone := d.Words()
				d.Add(read(0, address+shift, size))
				both := d.Words()
				d.Add(ev(0, api.Alloc, address+shift, size))
				if alone != int(size) || both != int(size+min(shift, size)) || d.Words() != int(min(shift, size)) {
					t.Fatalf("P19.4: %d bytes at %d, and %d behind: Words = %d, %d, %d", size, address, shift, alone, both, d.Words())
				}
			}
		}
	}
}

// TestWordsStay: asking changes nothing.
func TestWordsStay(t *testing.T) {
	asked, calm := race.New(), race.New()
	for _, e := range []api.Event{fork1, write(1, 8, 4), ev(0, api.Alloc, 9, 1), write(0, 8, 4), read(1, 9, 1)} {
		for range 3 {
			asked.Words()
		}
		a, _ := asked.Add(e)
		b, _ := calm.Add(e)
		if !slices.Equal(a, b) || asked.Words() != calm.Words() {
			t.Errorf("P19.4: behind %v: %v, %d and %v, %d", e, a, asked.Words(), b, calm.Words())
		}
	}
}
