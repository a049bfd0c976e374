package check_test

import (
	"math/rand"
	"slices"
	"testing"

	"hindsight/api"
	"hindsight/check"
)

// told is a checker that a test tells much, and the reason that it expects.
type told struct {
	t *testing.T
	*check.Checker
}

func newTold(t *testing.T) told { return told{t, check.New()} }

func (c told) add(e api.Event, want int) {
	c.t.Helper()
	if reason, fault := c.Add(e); reason != want || fault != api.OK {
		c.t.Fatalf("P16.2: Add(%v) = %d, %d, want %d, 0", e, reason, fault, want)
	}
}

func (c told) held(g int, want []uint64, toWrite func(lock uint64) bool) {
	c.t.Helper()
	locks, to := c.Held(g)
	if !slices.Equal(locks, want) || len(to) != len(want) {
		c.t.Fatalf("P16.3: Held(%d) lists %d locks, %d bools, want %d, or others", g, len(locks), len(to), len(want))
	}
	for k, lock := range locks {
		if to[k] != toWrite(lock) {
			c.t.Fatalf("P16.3: Held(%d) says of the lock %d: %t", g, lock, to[k])
		}
	}
}

// bytes is a plain memory: who owns each byte; an owner is the first byte and the size of its allocation.
type bytes map[uint64]span

func (b bytes) free(s span) bool {
	for k := range s.size {
		if b[s.from+k].size != 0 {
			return false
		}
	}
	return true
}

func (b bytes) fill(s span, owner span) {
	for k := range s.size {
		b[s.from+k] = owner
	}
}

// TestDenseMemory: thousands of allocations side by side, of unlike sizes, that come and go at random; at
// the first addresses, around a middle, and at the last.
func TestDenseMemory(t *testing.T) {
	r := rand.New(rand.NewSource(168))
	const room = 6000
	for _, base := range []uint64{0, 1<<40 - 99, last - room + 1} {
		c, memory, seen := newTold(t), bytes{}, map[int]int{}
		for k := range 60000 {
			most := 3 + 40*(k/20000)
			s := span{base + uint64(r.Intn(room)), uint64(1 + r.Intn(most))}
			if owner := memory[s.from]; owner.size > 0 && r.Intn(2) == 0 {
				s = owner
				if r.Intn(8) == 0 {
					s.size++
				}
			}
			if s.from > last-(s.size-1) {
				continue
			}
			if memory[s.from] == s && r.Intn(2) == 0 || r.Intn(6) == 0 {
				want := 0
				if memory[s.from] != s {
					want = 28
				}
				c.add(ev(0, api.Free, s.from, s.size), want)
				if seen[want]++; want == 0 {
					memory.fill(s, span{})
				}
				continue
			}
			want := 0
			if !memory.free(s) {
				want = 27
			}
			c.add(ev(0, api.Alloc, s.from, s.size), want)
			if seen[want]++; want == 0 {
				memory.fill(s, s)
			}
		}
		saw(t, seen, 1000, 0, 27, 28)
	}
}

// TestGreatestAllocations: those of MaxLife bytes, that touch each other, and small ones at their ends.
func TestGreatestAllocations(t *testing.T) {
	const size = api.MaxLife
	for _, base := range []uint64{0, 12345, last - 5*size + 1} {
		c := newTold(t)
		for _, k := range []uint64{3, 0, 4, 2} {
			c.add(ev(0, api.Alloc, base+k*size, size), 0)
		}
		gap := base + size
		for _, s := range []span{{base, 1}, {gap - 1, 1}, {gap - 1, 2}, {gap, size}, {gap + size - 1, 2}, {gap + size, 1}, {gap - 1, size}, {gap + 1, size}, {base + 4*size, size}, {base + 5*size - 1, 1}} {
			want := 27
			if s == (span{gap, size}) {
				want = 0
			}
			c.add(ev(0, api.Alloc, s.from, s.size), want)
			if want == 0 {
				c.add(ev(0, api.Free, s.from, s.size), 0)
			}
		}
		c.add(ev(0, api.Alloc, gap, 1), 0)
		c.add(ev(0, api.Alloc, gap, size), 27)
		c.add(ev(0, api.Alloc, gap+1, size-1), 0)
		c.add(ev(0, api.Free, gap, size), 28)
		c.add(ev(0, api.Free, gap, 1), 0)
		c.add(ev(0, api.Free, gap+1, size-1), 0)
		c.add(ev(0, api.Free, gap+1, size-1), 28)
		c.add(ev(0, api.Alloc, gap, size), 0)
	}
}

// TestMuchMemory: as many allocations as may be, in the order that is worst for a list: each at the
// front of the others; then all of them are freed from the middle on.
func TestMuchMemory(t *testing.T) {
	const n = api.MaxEvents/2 - 1
	for _, step := range []uint64{1, 1 << 40} {
		c := newTold(t)
		for k := range uint64(n) {
			c.add(ev(0, api.Alloc, (n-k)*step, 1), 0)
		}
		for k := range uint64(n) {
			at := 1 + (k+n/2)%n
			c.add(ev(0, api.Alloc, at*step, 1), 27)
			c.add(ev(0, api.Free, at*step, 1), 0)
			c.add(ev(0, api.Free, at*step, 1), 28)
		}
	}
}

// TestManyLocks: one goroutine holds many, to write and to read, taken and given back in unlike orders.
func TestManyLocks(t *testing.T) {
	r := rand.New(rand.NewSource(169))
	const n = 20000
	c := newTold(t)
	c.add(fork1, 0)
	number := func(k int) uint64 { return uint64(k) * 0x9e3779b97f4a7c15 }
	toWrite := func(lock uint64) bool { return lock%3 == 0 }
	take := func(k int) (int, int) {
		if toWrite(number(k)) {
			return api.Acquire, api.Release
		}
		return api.RAcquire, api.RRelease
	}
	var want []uint64
	for k := range n {
		kind, _ := take(k)
		c.add(ev(1, kind, number(k), 0), 0)
		want = append(want, number(k))
	}
	slices.Sort(want)
	c.held(1, want, toWrite)
	c.held(0, nil, toWrite)
	for count, k := range r.Perm(n) {
		_, back := take(k)
		c.add(ev(1, back, number(k), 0), 0)
		at, _ := slices.BinarySearch(want, number(k))
		if want = slices.Delete(want, at, at+1); count%200 == 0 || count > n-50 {
			c.held(1, want, toWrite)
		}
	}
	c.held(1, nil, toWrite)
}

// TestFewLocksBehindMany: what a goroutine once held does not make it slow to ask what it holds.
func TestFewLocksBehindMany(t *testing.T) {
	const n = 200000
	c := newTold(t)
	for k := range uint64(n) {
		c.add(ev(0, api.Acquire, k, 0), 0)
	}
	for k := range uint64(n - 2) {
		c.add(ev(0, api.Release, k+1, 0), 0)
	}
	for range n {
		c.held(0, []uint64{0, n - 1}, func(uint64) bool { return true })
	}
}

// TestManyReads: one lock, held to read as often as may be.
func TestManyReads(t *testing.T) {
	const n = api.MaxEvents/2 - 1
	c := newTold(t)
	c.add(fork1, 0)
	for range n {
		c.add(ev(1, api.RAcquire, 7, 0), 0)
	}
	c.held(1, []uint64{7}, func(uint64) bool { return false })
	for range n {
		c.add(ev(0, api.Acquire, 7, 0), 4)
		c.add(ev(0, api.RRelease, 7, 0), 7)
		c.add(ev(1, api.RRelease, 7, 0), 0)
	}
	c.add(ev(1, api.RRelease, 7, 0), 7)
	c.add(ev(0, api.Acquire, 7, 0), 0)
}

// TestAllGoroutines: all that there may be, begun and joined in unlike orders.
func TestAllGoroutines(t *testing.T) {
	r := rand.New(rand.NewSource(170))
	c := newTold(t)
	want := []int{0}
	for count, k := range r.Perm(api.MaxG - 1) {
		g := k + 1
		c.add(ev(g, api.Mark, 0, 0), 1)
		c.add(ev(0, api.Fork, 0, uint64(g)), 0)
		c.add(ev(g, api.Mark, 0, 0), 0)
		want = append(want, g)
		if count%5000 == 0 {
			if got := c.Alive(); !slices.Equal(got, slices.Sorted(slices.Values(want))) {
				t.Fatalf("P16.3: behind %d forks Alive lists %d", count+1, len(got))
			}
		}
	}
	slices.Sort(want)
	for count, k := range r.Perm(api.MaxG - 1) {
		g := k + 1
		c.add(ev(0, api.Join, 0, uint64(g)), 0)
		c.add(ev(0, api.Join, 0, uint64(g)), 10)
		c.add(ev(g, api.Mark, 0, 0), 2)
		c.add(ev(0, api.Fork, 0, uint64(g)), 8)
		at, _ := slices.BinarySearch(want, g)
		if want = slices.Delete(want, at, at+1); count%1000 == 0 || len(want) < 9 {
			if got := c.Alive(); !slices.Equal(got, want) {
				t.Fatalf("P16.3: behind %d joins Alive lists %d, want %d", count+1, len(got), len(want))
			}
		}
	}
	for range 100000 {
		if got := c.Alive(); !slices.Equal(got, []int{0}) {
			t.Fatalf("P16.3: Alive = %v", got)
		}
	}
}

// TestGreatestRoom: a channel with room for MaxCap values, filled twice over.
func TestGreatestRoom(t *testing.T) {
	c := newTold(t)
	c.add(ev(0, api.Make, last, api.MaxCap), 0)
	for range 2 {
		for range api.MaxCap {
			c.add(ev(0, api.Send, last, 0), 0)
		}
		c.add(ev(0, api.Send, last, 0), 16)
		for range api.MaxCap {
			c.add(ev(0, api.Recv, last, 1), 0)
		}
		c.add(ev(0, api.Recv, last, 1), 17)
	}
}

// TestManySenders: all goroutines wait on one channel; their values are received in their turn, and the
// Acks come from the last one of these on.
func TestManySenders(t *testing.T) {
	const n = 5000
	c := newTold(t)
	c.add(ev(0, api.Make, 3, 0), 0)
	for g := 1; g <= n; g++ {
		c.add(ev(0, api.Fork, 0, uint64(g)), 0)
	}
	for g := n; g >= 1; g-- {
		c.add(ev(g, api.Send, 3, 0), 0)
	}
	for g := n; g > n/2; g-- {
		c.add(ev(0, api.Recv, 3, 1), 0)
		c.add(ev(g-1, api.Ack, 3, 0), 22)
	}
	for g := n/2 + 1; g <= n; g++ {
		c.add(ev(g, api.Ack, 3, 0), 0)
		c.add(ev(0, api.Join, 0, uint64(g)), 0)
	}
	c.add(ev(n/2, api.Ack, 3, 0), 22)
	c.add(ev(0, api.Close, 3, 0), 20)
	c.add(ev(0, api.Join, 0, n/2), 12)
}

// TestManyNames: as many locks, channels, wait groups and onces as may be, with the same numbers.
func TestManyNames(t *testing.T) {
	const n = api.MaxEvents / 8
	var trace []api.Event
	for k := range uint64(n) {
		obj := last - k
		trace = append(trace, ev(0, api.Acquire, obj, 0), ev(0, api.Make, obj, k%2), ev(0, api.Add, obj, 2*k), ev(0, api.Once, obj, 1))
	}
	for k := range uint64(n) {
		obj, down := last-k, uint64(0)
		if k > 0 {
			down = 2*k - 1
		}
		trace = append(trace, ev(0, api.Release, obj, 0), ev(0, api.Close, obj, 0), ev(0, api.Add, obj, down), ev(0, api.Once, obj, 0))
	}
	if place, reason, fault := check.Run(trace); place != -1 || reason != 0 || fault != api.OK {
		t.Errorf("P16.4: Run = %d, %d, %d, want -1, 0, 0", place, reason, fault)
	}
}
