package race_test

import (
	"slices"
	"testing"
	"time"

	"hindsight/api"
	"hindsight/race"
)

// forks are those of all goroutines but 0, by goroutine 0.
func forks(goroutines int) []api.Event {
	var run []api.Event
	for g := 1; g < goroutines; g++ {
		run = append(run, ev(0, api.Fork, 0, uint64(g)))
	}
	return run
}

// inTime fails if a test of a large run took much longer than it needs.
func inTime(t *testing.T, begun time.Time) {
	t.Helper()
	if took := time.Since(begun); took > 150*time.Second {
		t.Errorf("P0.1: it took %v", took)
	}
}

// detected are what a detector answers of a run, one behind the other; and how many Words there are then.
func detected(t *testing.T, run []api.Event) ([]api.Race, int) {
	t.Helper()
	d, all := race.New(), []api.Race(nil)
	for k, e := range run {
		some, fault := d.Add(e)
		if fault != api.OK {
			t.Fatalf("P19.3: Add of %d: %d", k, fault)
		}
		all = append(all, some...)
	}
	return all, d.Words()
}

// same fails if All of a run and a detector of it answer other races than these, or Words is another.
func same(t *testing.T, run []api.Event, words int, want ...api.Race) {
	t.Helper()
	all, _, fault := race.All(run)
	if !slices.Equal(all, want) || fault != api.OK {
		t.Errorf("P19.1: All answers %d races, %d, want %d", len(all), fault, len(want))
	}
	if all, n := detected(t, run); !slices.Equal(all, want) || n != words {
		t.Errorf("P19.3: a detector answers %d races, want %d; Words = %d, want %d", len(all), len(want), n, words)
	}
}

// TestAllUnderOneLock: all goroutines that there are, again and again at the same bytes; each knows of all
// ahead of it. One that was not asked to take the lock races with the last access of each.
func TestAllUnderOneLock(t *testing.T) {
	defer inTime(t, time.Now())
	const goroutines, rogue = api.MaxG - 1, api.MaxG - 1
	run := forks(api.MaxG)
	for k := 0; len(run) < api.MaxEvents-8; k++ {
		g := k % goroutines
		run = append(run, acquire(g), read(g, 60, 8), write(g, 60, 8), release(g))
	}
	same(t, run, 8)
	second := len(run)
	run = append(run, write(rogue, 62, 3))
	var want []api.Race
	for g := range goroutines {
		want = append(want, at(second-4*goroutines+4*g+2, second))
	}
	same(t, run, 8, want...)
}

// TestOneRogue: an access that nothing orders, once, and then many in order: each of them races with it.
func TestOneRogue(t *testing.T) {
	defer inTime(t, time.Now())
	const goroutines = api.MaxG
	run := append(forks(goroutines), write(1, 8, 8))
	first := len(run) - 1
	var want []api.Race
	for k := 0; len(run) < api.MaxEvents-4; k++ {
		g := 2 + k%(goroutines-2)
		run = append(run, acquire(g), write(g, 8, 8), release(g))
		want = append(want, at(first, len(run)-2))
	}
	same(t, run, 8, want...)
}

// TestReadByAll: what one wrote ahead of them is read by all, often; then one that joined them writes.
func TestReadByAll(t *testing.T) {
	defer inTime(t, time.Now())
	run := append([]api.Event{write(0, 8, 8)}, forks(api.MaxG)...)
	for range 5 {
		for g := 1; g < api.MaxG; g++ {
			run = append(run, read(g, 8, 8), write(g, 100+8*uint64(g), 8))
		}
	}
	for g := 1; g < api.MaxG; g++ {
		run = append(run, ev(0, api.Join, 0, uint64(g)))
	}
	for len(run) < api.MaxEvents {
		run = append(run, write(0, 8, 8))
	}
	same(t, run, 8*api.MaxG)
}

// TestManyRaces: two goroutines, no order, as many events as there may be.
func TestManyRaces(t *testing.T) {
	defer inTime(t, time.Now())
	run := []api.Event{fork1}
	var want []api.Race
	for len(run) < api.MaxEvents {
		if n := len(run); n > 1 {
			want = append(want, at(n-1, n))
		}
		run = append(run, write(len(run)%2, 8, 64))
	}
	same(t, run, 64, want...)
}

// TestManyBytes: as many bytes as a run can touch, each once; and their end.
func TestManyBytes(t *testing.T) {
	defer inTime(t, time.Now())
	const each, chunks = api.MaxSize, 1000
	run := []api.Event{fork1}
	for k := uint64(0); len(run) < api.MaxEvents-chunks; k++ {
		run = append(run, write(int(k%2), 5+each*k, each))
	}
	bytes := each * (len(run) - 1)
	same(t, run, bytes)
	for k := range uint64(chunks) {
		run = append(run, ev(0, api.Alloc, 5+api.MaxLife*k, api.MaxLife))
	}
	_, words := detected(t, run)
	if words != bytes-chunks*api.MaxLife {
		t.Errorf("P19.4: Words = %d", words)
	}
}

// TestManyLives: the longest lives that there are, many of them, beside much that is kept.
func TestManyLives(t *testing.T) {
	defer inTime(t, time.Now())
	const far = 1 << 40
	run := []api.Event{fork1}
	for k := range uint64(100000) {
		run = append(run, write(0, 1000*k, 8))
	}
	for range 50000 {
		run = append(run, ev(0, api.Alloc, far, api.MaxLife), write(1, far+70, 8), ev(1, api.Free, far, api.MaxLife), write(0, far+70, 8))
	}
	same(t, run, 800008)
}

// TestEachOfMany: all goroutines race with one another at a byte, as far as answers of that size go.
func TestEachOfMany(t *testing.T) {
	defer inTime(t, time.Now())
	const goroutines = 1500
	run := forks(goroutines)
	first := len(run)
	for g := 1; g < goroutines; g++ {
		run = append(run, write(g, 8, 1))
	}
	var want []api.Race
	for second := first; second < len(run); second++ {
		for i := first; i < second; i++ {
			want = append(want, at(i, second))
		}
	}
	same(t, run, 1, want...)
	if r, is, _, _ := race.First(run); r != at(first, first+1) || !is {
		t.Errorf("P19.2: First = %v, %t", r, is)
	}
}
