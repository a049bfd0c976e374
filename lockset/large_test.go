package lockset_test

import (
	"slices"
	"testing"
	"time"

	"hindsight/api"
	"hindsight/lockset"
)

// inTime fails if a test of a large run took much longer than it needs.
func inTime(t *testing.T, begun time.Time) {
	t.Helper()
	if took := time.Since(begun); took > 150*time.Second {
		t.Errorf("P0.1: it took %v", took)
	}
}

// same fails if Find of a run, or a watcher of it, answers other suspects.
func same(t *testing.T, run []api.Event, want ...api.Suspect) {
	t.Helper()
	if got, place, fault := lockset.Find(run); !slices.Equal(got, want) || place != -1 || fault != api.OK {
		t.Errorf("P20.2: Find answers %d suspects, %d, %d, want %d", len(got), place, fault, len(want))
	}
	w, got := lockset.New(), []api.Suspect(nil)
	for k, e := range run {
		some, fault := w.Add(e)
		if fault != api.OK {
			t.Fatalf("P20.4: Add of %d: %d", k, fault)
		}
		got = append(got, some...)
	}
	if !slices.Equal(got, want) {
		t.Errorf("P20.4: a watcher answers %d suspects, want %d", len(got), len(want))
	}
}

// numbers are so many, each a step above the one ahead of it.
func numbers(n int, from, step uint64) []uint64 {
	list := make([]uint64, n)
	for k := range list {
		list[k] = from + step*uint64(k)
	}
	return list
}

// TestManyBytes: as many bytes as a run can touch, nearly; some of them another goroutine writes, too.
func TestManyBytes(t *testing.T) {
	defer inTime(t, time.Now())
	const each = api.MaxSize
	run := []api.Event{fork1}
	for k := uint64(0); len(run) < api.MaxEvents-50000; k++ {
		run = append(run, write(0, 5+each*k, each))
	}
	var want []api.Suspect
	for k := uint64(0); len(run) < api.MaxEvents; k++ {
		for address := 5 + each*k; address < 5+each*k+each; address++ {
			want = append(want, suspect(address, len(run), api.Exclusive))
		}
		run = append(run, write(1, 5+each*k, each))
	}
	same(t, run, want...)
}

// TestEachByteAlone: lines whose bytes are all unlike each other, and accesses to all of them at once.
func TestEachByteAlone(t *testing.T) {
	defer inTime(t, time.Now())
	run := []api.Event{fork1}
	for k := range uint64(128) {
		run = append(run, write(0, k, 1))
	}
	for k := range uint64(64) { // 32 to 95 are guarded by their numbers
		run = append(run, acquire(1, k), read(1, 32+k, 1), release(1, k))
	}
	for len(run) < api.MaxEvents-1 {
		run = append(run, read(len(run)%2, 32, 64))
	}
	var want []api.Suspect
	for address := uint64(32); address < 96; address++ {
		want = append(want, suspect(address, len(run), api.Shared))
	}
	same(t, append(run, write(0, 32, 64)), want...)
}

// TestManyLocks: each lock that is taken guards, with all ahead of it, a byte of its own.
func TestManyLocks(t *testing.T) {
	defer inTime(t, time.Now())
	const many = 1 << 16
	run := []api.Event{fork1}
	for k := range uint64(many) {
		run = append(run, write(0, k, 1))
	}
	for k := range uint64(many) {
		run = append(run, acquire(1, 7*k), write(1, k, 1))
	}
	same(t, run)
	for _, k := range []int{0, 1, 2, many / 2, many - 1} {
		guards(t, run, uint64(k), api.Modified, numbers(k+1, 0, 7)...)
	}
}

// TestManyLocksOfMany: two goroutines hold many locks, of which they have every second one in common, and
// take and give back others; at many bytes.
func TestManyLocksOfMany(t *testing.T) {
	defer inTime(t, time.Now())
	const many, bytes = 500, 1 << 12
	run := []api.Event{fork1, ev(0, api.Fork, 0, 2)}
	for k := range uint64(many) {
		run = append(run, racquire(1, 6*k), racquire(1, 6*k+2), racquire(2, 6*k), racquire(2, 6*k+4))
	}
	for k := range uint64(bytes) {
		run = append(run, read(0, k, 1))
	}
	for k := uint64(0); len(run) < 1<<18; k++ {
		g := 1 + int(k%2)
		run = append(run, racquire(g, 1+6*(k%999)), read(g, k%bytes, 1), rrelease(g, 1+6*(k%999)), read(3-g, k%bytes, 1))
	}
	for _, k := range []uint64{0, 1, bytes - 1} {
		guards(t, run, k, api.Shared, numbers(many, 0, 6)...)
	}
	same(t, append(run, write(1, 9, 1)), suspect(9, len(run), api.Shared))
}

// TestLostOneByOne: many guards, of which each access loses one.
func TestLostOneByOne(t *testing.T) {
	defer inTime(t, time.Now())
	const many = 1 << 16
	run := []api.Event{fork1, write(0, 8, 8)}
	for lock := range uint64(many) {
		run = append(run, acquire(1, lock))
	}
	for lock := range uint64(many) {
		run = append(run, write(1, 8, 8), release(1, lock))
	}
	guards(t, run, 8, api.Modified, many-1)
	guards(t, run[:2+many+2*1000], 8, api.Modified, numbers(many-999, 999, 1)...)
	var want []api.Suspect
	for k := range uint64(8) {
		want = append(want, suspect(8+k, len(run), api.Modified))
	}
	same(t, append(run, read(1, 8, 8)), want...)
}

// TestAllUnderOneLock: all goroutines that there are, again and again at the same bytes; then one without
// the lock.
func TestAllUnderOneLock(t *testing.T) {
	defer inTime(t, time.Now())
	var run []api.Event
	for g := 1; g < api.MaxG; g++ {
		run = append(run, ev(0, api.Fork, 0, uint64(g)))
	}
	for k := 0; len(run) < api.MaxEvents-8; k++ {
		g := k % api.MaxG
		run = append(run, acquire(g, 5), read(g, 60, 8), write(g, 60, 8), release(g, 5))
	}
	same(t, run)
	guards(t, run, 63, api.Modified, 5)
	same(t, append(run, read(9, 62, 3)), suspect(62, len(run), api.Modified), suspect(63, len(run), api.Modified), suspect(64, len(run), api.Modified))
}

// TestManyLives: the longest lives that there are, many of them, beside much that is kept; in each a byte is
// a suspect.
func TestManyLives(t *testing.T) {
	defer inTime(t, time.Now())
	const far = 1 << 40
	run := []api.Event{fork1}
	for k := range uint64(100000) {
		run = append(run, write(0, 1000*k, 8))
	}
	var want []api.Suspect
	for range 30000 {
		run = append(run, alloc(0, far, api.MaxLife), write(1, far+70, 1), free(1, far, api.MaxLife), write(0, far+70, 1), write(1, far+70, 1))
		want = append(want, suspect(far+70, len(run)-1, api.Exclusive))
	}
	same(t, run, want...)
}
