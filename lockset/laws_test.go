package lockset_test

import (
	"math/rand"
	"slices"
	"testing"

	"hindsight/api"
	"hindsight/check"
	"hindsight/lockset"
	"hindsight/order"
	"hindsight/samples"
)

// mixes are lists of kinds with accesses and locks, and something beside them.
func mixes() [][]int {
	locks := []int{api.Acquire, api.Release, api.RAcquire, api.RRelease, api.Fork}
	return [][]int{
		append(samples.Kinds(), api.Read, api.Write, api.Read, api.Write, api.Acquire, api.RAcquire, api.Fork),
		append(slices.Clone(locks), api.Read, api.Write),
		append(slices.Clone(locks), api.Read, api.Read, api.Write, api.Acquire, api.RAcquire, api.RAcquire),
		append(slices.Clone(locks), api.Read, api.Write, api.Alloc, api.Free),
		append(slices.Clone(locks), api.Read, api.Read, api.Read, api.Write, api.Write, api.Alloc, api.Free, api.Join, api.Store, api.Load),
		{api.Read, api.Write, api.Fork, api.Alloc, api.Free},
		{api.Read, api.Read, api.Write, api.Acquire, api.Release, api.Fork},
	}
}

// someRun is a run of one of the mixes, its bytes somewhere in memory, its locks of any numbers.
func someRun(r *rand.Rand, n int) []api.Event {
	mix := mixes()[r.Intn(len(mixes()))]
	return relocked(samples.Moved(r.Intn, samples.Run(r.Intn, n, 2+r.Intn(4), mix...)), someNumbers(r))
}

// someNumbers are unlike ones for the locks 0 to 2.
func someNumbers(r *rand.Rand) []uint64 {
	numbers := []uint64{0, 1, 2, 3, 4, 7, 8, 63, 64, 1 << 32, 1<<32 + 1, 1<<63 - 1, 1 << 63, 1<<63 + 5, top - 1, top}
	r.Shuffle(len(numbers), func(a, b int) { numbers[a], numbers[b] = numbers[b], numbers[a] })
	return numbers[:3]
}

// relocked is a run of moves with other numbers for its locks.
func relocked(run []api.Event, numbers []uint64) []api.Event {
	run = slices.Clone(run)
	for k, e := range run {
		switch e.Kind {
		case api.Acquire, api.Release, api.RAcquire, api.RRelease:
			run[k].Obj = numbers[e.Obj]
		}
	}
	return run
}

// TestRandomRuns: what all calls answer, Guards behind each event; and a test that meets too little does not
// pass.
func TestRandomRuns(t *testing.T) {
	r := rand.New(rand.NewSource(201))
	told, states, most := map[int]int{}, map[int]int{}, 0
	for range 1200 {
		run := someRun(r, 10+r.Intn(40))
		for _, s := range holds(t, run) {
			told[s.State]++
		}
		p := newPlain()
		for n, e := range run {
			p.add(t, e)
			address := uint64(r.Intn(8))
			if isAccess(e) {
				address = bytesOf(e)[r.Intn(int(e.Arg))]
			}
			b := p.bytes[address]
			guards(t, run[:n+1], address, b.state, b.guards...)
			states[b.state]++
			most = max(most, len(b.guards))
		}
	}
	if told[api.Exclusive] < 2000 || told[api.Shared] < 500 || told[api.Modified] < 300 || states[api.Exclusive] < 500 || states[api.Shared] < 500 || states[api.Modified] < 500 || most < 3 {
		t.Errorf("the test met suspects %v, states %v, and up to %d guards", told, states, most)
	}
}

// TestLongRuns: much comes and goes at the same bytes.
func TestLongRuns(t *testing.T) {
	r := rand.New(rand.NewSource(202))
	for range 25 {
		holds(t, someRun(r, 800))
	}
}

// TestBeginnings: Find of a beginning is one of Find; a watcher's answers, one behind the other, are Find; a
// byte is Modified without guards just if it is a suspect in the life that it has.
func TestBeginnings(t *testing.T) {
	r := rand.New(rand.NewSource(203))
	is, isNot := 0, 0
	for range 250 {
		run := someRun(r, 50)
		whole, _, _ := lockset.Find(run)
		w, all := lockset.New(), []api.Suspect(nil)
		for n := range len(run) + 1 {
			if got, _, _ := lockset.Find(run[:n]); !slices.Equal(got, all) || !slices.Equal(got, whole[:len(got)]) {
				t.Fatalf("P20.5: of %v: Find of the first %d = %v, a watcher answers %v, the whole has %v", run, n, got, all, whole)
			}
			if n < len(run) {
				some, _ := w.Add(run[n])
				all = append(all, some...)
			}
		}
		for address := range touched(run) {
			state, locks, _, _ := lockset.Guards(run, address)
			bare, now := state == api.Modified && len(locks) == 0, suspected(run, whole, address)
			if bare != now {
				t.Fatalf("P20.5: of %v: the byte %d has the state %d and the guards %v, and Find = %v", run, address, state, locks, whole)
			}
			if is++; !now {
				isNot++
			}
		}
	}
	if is-isNot < 300 || isNot < 300 {
		t.Errorf("the test met %d bytes, %d of them no suspects", is, isNot)
	}
}

// touched are the bytes that a run touches.
func touched(run []api.Event) map[uint64]int {
	all := map[uint64]int{}
	for _, e := range run {
		if isAccess(e) {
			for _, address := range bytesOf(e) {
				all[address]++
			}
		}
	}
	return all
}

// covers tells whether an Alloc or a Free covers a byte.
func covers(e api.Event, address uint64) bool { return isLife(e) && address-e.Obj < e.Arg }

// suspected tells whether one of some suspects is a byte, in the life that it has behind a run.
func suspected(run []api.Event, list []api.Suspect, address uint64) bool {
	return slices.ContainsFunc(list, func(s api.Suspect) bool {
		return s.Addr == address && !slices.ContainsFunc(run[s.At:], func(e api.Event) bool { return covers(e, address) })
	})
}

// life is what touched a byte from one Alloc or Free, or the begin, up to the next one, or the end.
type life struct {
	address  uint64
	from, to int
	accesses []int
	held     [][]uint64 // for each
}

// common are the locks that were held for all accesses from one of them on.
func (l life) common(first int) []uint64 {
	var list []uint64
	for k, held := range l.held[first:] {
		if k == 0 {
			list = slices.Clone(held)
		}
		list = slices.DeleteFunc(list, func(lock uint64) bool { return !slices.Contains(held, lock) })
	}
	return list
}

// lives are those of all bytes of a run that are touched in them.
func lives(t *testing.T, run []api.Event) []life {
	t.Helper()
	p, held := newPlain(), make([][]uint64, len(run))
	for k, e := range run {
		p.add(t, e)
		held[k] = p.held(e)
	}
	var list []life
	for address := range touched(run) {
		l := life{address: address}
		for k, e := range run {
			if covers(e, address) {
				l.to = k
				list = append(list, l)
				l = life{address: address, from: k}
			}
			if isAccess(e) && slices.Contains(bytesOf(e), address) {
				l.accesses, l.held = append(l.accesses, k), append(l.held, held[k])
			}
		}
		l.to = len(run)
		list = append(list, l)
	}
	return slices.DeleteFunc(list, func(l life) bool { return len(l.accesses) == 0 })
}

// TestLifeAsAWhole: the state and the guards of a byte hang on its life's accesses: it leaves Exclusive by
// the first one of another goroutine than the first, and from there on what writes, and what was held for
// all, counts.
func TestLifeAsAWhole(t *testing.T) {
	r := rand.New(rand.NewSource(204))
	seen := map[int]int{}
	for range 400 {
		run := someRun(r, 60)
		all, _, _ := lockset.Find(run)
		for _, l := range lives(t, run) {
			left := slices.IndexFunc(l.accesses, func(k int) bool { return run[k].G != run[l.accesses[0]].G })
			state, locks := api.Exclusive, []uint64(nil)
			if left >= 0 {
				state, locks = api.Shared, l.common(left)
				if slices.ContainsFunc(l.accesses[left:], func(k int) bool { return run[k].Kind == api.Write }) {
					state = api.Modified
				}
			}
			guards(t, run[:l.to], l.address, state, locks...)
			told := slices.ContainsFunc(all, func(s api.Suspect) bool { return s.Addr == l.address && s.At >= l.from && s.At < l.to })
			if told != (state == api.Modified && len(locks) == 0) {
				t.Fatalf("P20.2: of %v: the byte %d from %d to %d is %d, guarded by %v; Find = %v", run, l.address, l.from, l.to, state, locks, all)
			}
			if seen[state]++; len(locks) > 0 {
				seen[10+state]++
			}
		}
	}
	for _, sort := range []int{api.Exclusive, api.Shared, api.Modified, 10 + api.Shared, 10 + api.Modified} {
		if seen[sort] < 200 {
			t.Errorf("the test met the states %v", seen)
		}
	}
}

// TestOneLockIsEnough: a lock that is held for every access of a life keeps its byte from being a suspect.
func TestOneLockIsEnough(t *testing.T) {
	r := rand.New(rand.NewSource(205))
	enough, shared := 0, 0
	for range 600 {
		run := guardedRun(r, 60)
		all, _, _ := lockset.Find(run)
		for _, l := range lives(t, run) {
			if len(l.common(0)) == 0 {
				continue
			}
			enough++
			if slices.ContainsFunc(l.accesses, func(k int) bool { return run[k].G != run[l.accesses[0]].G }) {
				shared++
			}
			if slices.ContainsFunc(all, func(s api.Suspect) bool { return s.Addr == l.address && s.At >= l.from && s.At < l.to }) {
				t.Fatalf("P20.6: of %v: from %d to %d the locks %v are held at each access to %d; Find = %v", run, l.from, l.to, l.common(0), l.address, all)
			}
		}
	}
	if enough < 3000 || shared < 1000 {
		t.Errorf("the test met %d lives with such a lock, %d of them of several goroutines", enough, shared)
	}
}

// theLock is a number that no move has.
const theLock = 1 << 50

// guardedRun is a run in which most accesses are made with the lock: a Write with it to write, a Read with it
// to write or to read.
func guardedRun(r *rand.Rand, n int) []api.Event {
	c, run := check.New(), []api.Event(nil)
	add := func(e api.Event) bool {
		reason, fault := c.Add(e)
		if reason == 0 && fault == api.OK {
			run = append(run, e)
		}
		return reason == 0 && fault == api.OK
	}
	for range 3 * n {
		e := samples.Move(r.Intn, 4, mixes()[r.Intn(len(mixes()))]...)
		take, give := api.Acquire, api.Release
		if e.Kind == api.Read && r.Intn(2) == 0 {
			take, give = api.RAcquire, api.RRelease
		}
		if !isAccess(e) || r.Intn(20) == 0 {
			add(e)
		} else if add(ev(e.G, take, theLock, 0)) {
			add(e)
			add(ev(e.G, give, theLock, 0))
		}
	}
	return samples.Moved(r.Intn, run)
}

// TestRacesAreTold: where two accesses race at a byte that is shared already by the first, it is a suspect
// behind the second.
func TestRacesAreTold(t *testing.T) {
	r := rand.New(rand.NewSource(206))
	races := 0
	for range 250 {
		run := someRun(r, 50)
		o, _, _ := order.Build(run)
		for j, b := range run {
			for i, a := range run[:j] {
				if before, _ := o.Before(i, j); before || !isAccess(a) || !isAccess(b) || a.G == b.G || a.Kind == api.Read && b.Kind == api.Read {
					continue
				}
				for _, address := range bytesOf(a) {
					if !slices.Contains(bytesOf(b), address) || slices.ContainsFunc(run[i:j], func(e api.Event) bool { return covers(e, address) }) {
						continue
					}
					if state, _, _, _ := lockset.Guards(run[:i+1], address); state != api.Shared && state != api.Modified {
						continue
					}
					races++
					all, _, _ := lockset.Find(run[:j+1])
					if !suspected(run[:j+1], all, address) {
						t.Fatalf("P20.7: of %v: %d and %d race at %d, which is shared; Find of this beginning = %v", run, i, j, address, all)
					}
				}
			}
		}
	}
	if races < 5000 {
		t.Errorf("the test met %d races at such bytes", races)
	}
}

// TestNumbersDontMatter: unlike locks may have any unlike numbers.
func TestNumbersDontMatter(t *testing.T) {
	r := rand.New(rand.NewSource(207))
	told := 0
	for range 400 {
		run := samples.Moved(r.Intn, samples.Run(r.Intn, 60, 2+r.Intn(4), mixes()[r.Intn(len(mixes()))]...))
		want, _, _ := lockset.Find(run)
		told += len(want)
		for range 5 {
			numbers := someNumbers(r)
			other := relocked(run, numbers)
			if got, _, _ := lockset.Find(other); !slices.Equal(got, want) {
				t.Fatalf("P20.8: of %v: %v; with the locks %v: %v", run, want, numbers, got)
			}
			for address := range touched(run) {
				state, locks, _, _ := lockset.Guards(run, address)
				var renamed []uint64
				for _, lock := range locks {
					renamed = append(renamed, numbers[lock])
				}
				slices.Sort(renamed)
				guards(t, other, address, state, renamed...)
			}
		}
	}
	if told < 1000 {
		t.Errorf("the test met %d suspects", told)
	}
}
