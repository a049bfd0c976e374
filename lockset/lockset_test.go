package lockset_test

import (
	"slices"
	"testing"

	"hindsight/api"
	"hindsight/lockset"
)

// TestExamples are those of the chapter.
func TestExamples(t *testing.T) {
	behind := func(events ...api.Event) []api.Event { return append([]api.Event{fork1}, events...) }

	one := behind(write(0, 8, 1), write(1, 8, 1))
	found(t, one, suspect(8, 2, api.Exclusive))
	guards(t, one, 8, api.Modified)
	guards(t, one, 9, api.Virgin)

	two := behind(write(0, 8, 1), read(1, 8, 1))
	found(t, two)
	guards(t, two, 8, api.Shared)
	found(t, append(two, write(0, 8, 1)), suspect(8, 3, api.Shared))

	three := behind(write(0, 8, 1), acquire(1, 5), write(1, 8, 1), release(1, 5))
	found(t, three)
	guards(t, three, 8, api.Modified, 5)
	found(t, append(three, read(0, 8, 1)), suspect(8, 5, api.Modified))

	found(t, behind(write(0, 8, 1), racquire(1, 5), write(1, 8, 1)), suspect(8, 3, api.Exclusive))
	four := behind(write(0, 8, 1), racquire(1, 5), read(1, 8, 1))
	found(t, four)
	guards(t, four, 8, api.Shared, 5)

	five := behind(write(0, 8, 2), write(1, 9, 4))
	found(t, five, suspect(9, 2, api.Exclusive))
	for _, address := range []uint64{8, 10, 11, 12} {
		guards(t, five, address, api.Exclusive)
	}

	refused(t, append(slices.Clone(one), free(0, 8, 1)), 3, api.ErrBad)
	found(t, append(slices.Clone(one), alloc(0, 8, 1), write(1, 8, 1), write(0, 8, 1)), suspect(8, 2, api.Exclusive), suspect(8, 5, api.Exclusive))

	refused(t, []api.Event{{}}, 0, api.ErrKind)
	refused(t, []api.Event{ev(1, api.Mark, 0, 0)}, 0, api.ErrBad)
	if got, fault := lockset.New().Add(ev(1, api.Mark, 0, 0)); len(got) != 0 || fault != api.ErrBad {
		t.Errorf("P20.4: Add = %v, %d", got, fault)
	}
}

// TestNoEvents: a trace without events.
func TestNoEvents(t *testing.T) {
	for _, none := range [][]api.Event{nil, {}} {
		finds(t, none)
		for _, address := range []uint64{0, 1, 8, 1 << 63, top} {
			guards(t, none, address, api.Virgin)
		}
	}
}

// TestRows: each row of the table, for a Read and for a Write, by the owner and by another one, with and
// without the lock that guards.
func TestRows(t *testing.T) {
	const virgin, exclusive, shared, modified = api.Virgin, api.Exclusive, api.Shared, api.Modified
	take, give, rtake, rgive := acquire(1, 5), release(1, 5), racquire(1, 5), rrelease(1, 5)
	own, owns := read(0, 8, 1), write(0, 8, 1)
	lock := func(e api.Event) []api.Event { return []api.Event{take, e, give} }
	rlock := func(e api.Event) []api.Event { return []api.Event{rtake, e, rgive} }
	guardedShared := append([]api.Event{owns}, rlock(read(1, 8, 1))...)   // 2 to 5
	guardedModified := append([]api.Event{owns}, lock(write(1, 8, 1))...) // 2 to 5
	bareShared := []api.Event{owns, read(1, 8, 1)}                        // 2 to 3
	bareModified := []api.Event{owns, write(1, 8, 1)}                     // 2 to 3
	under := func(e api.Event) []api.Event {                              // of the goroutine 0
		return []api.Event{acquire(0, 5), e, release(0, 5)}
	}
	five := []uint64{5}
	for name, x := range map[string]struct {
		ahead, then []api.Event
		state       int
		guards      []uint64
		told        []api.Suspect
	}{
		"nothing":                                            {nil, nil, virgin, nil, nil},
		"Virgin, a Read":                                     {nil, []api.Event{own}, exclusive, nil, nil},
		"Virgin, a Write":                                    {nil, []api.Event{owns}, exclusive, nil, nil},
		"Virgin, a Read with a lock":                         {nil, lock(read(1, 8, 1)), exclusive, nil, nil},
		"Virgin, a Write with a lock":                        {nil, lock(write(1, 8, 1)), exclusive, nil, nil},
		"Exclusive, its owner reads":                         {[]api.Event{owns}, []api.Event{own, own}, exclusive, nil, nil},
		"Exclusive, its owner writes":                        {[]api.Event{own}, []api.Event{owns, owns}, exclusive, nil, nil},
		"Exclusive, its owner with a lock":                   {[]api.Event{own}, append(under(owns), under(own)...), exclusive, nil, nil},
		"Exclusive, another one reads":                       {[]api.Event{owns}, []api.Event{read(1, 8, 1)}, shared, nil, nil},
		"Exclusive, another one reads what was read":         {[]api.Event{own}, []api.Event{read(1, 8, 1)}, shared, nil, nil},
		"Exclusive, another one writes":                      {[]api.Event{owns}, []api.Event{write(1, 8, 1)}, modified, nil, []api.Suspect{suspect(8, 3, exclusive)}},
		"Exclusive, another one writes what was read":        {[]api.Event{own}, []api.Event{write(1, 8, 1)}, modified, nil, []api.Suspect{suspect(8, 3, exclusive)}},
		"Exclusive, another one reads with a lock":           {[]api.Event{owns}, lock(read(1, 8, 1)), shared, five, nil},
		"Exclusive, another one reads with a lock to read":   {[]api.Event{owns}, rlock(read(1, 8, 1)), shared, five, nil},
		"Exclusive, another one writes with a lock":          {[]api.Event{owns}, lock(write(1, 8, 1)), modified, five, nil},
		"Exclusive, another one writes with a lock to read":  {[]api.Event{owns}, rlock(write(1, 8, 1)), modified, nil, []api.Suspect{suspect(8, 4, exclusive)}},
		"Shared, its first owner reads":                      {guardedShared, []api.Event{own}, shared, nil, nil},
		"Shared, the other one reads":                        {guardedShared, []api.Event{read(1, 8, 1)}, shared, nil, nil},
		"Shared, a third one reads":                          {guardedShared, []api.Event{read(2, 8, 1)}, shared, nil, nil},
		"Shared, a Read with its guard":                      {guardedShared, lock(read(1, 8, 1)), shared, five, nil},
		"Shared, a Read with its guard, by the first owner":  {guardedShared, under(own), shared, five, nil},
		"Shared, a Write with its guard":                     {guardedShared, lock(write(1, 8, 1)), modified, five, nil},
		"Shared, a Write with its guard, by the first owner": {guardedShared, under(owns), modified, five, nil},
		"Shared, a Write with its guard to read":             {guardedShared, rlock(write(1, 8, 1)), modified, nil, []api.Suspect{suspect(8, 7, shared)}},
		"Shared, its first owner writes":                     {guardedShared, []api.Event{owns}, modified, nil, []api.Suspect{suspect(8, 6, shared)}},
		"Shared, the other one writes":                       {guardedShared, []api.Event{write(1, 8, 1)}, modified, nil, []api.Suspect{suspect(8, 6, shared)}},
		"Shared without guards, a Read with a lock":          {bareShared, lock(read(1, 8, 1)), shared, nil, nil},
		"Shared without guards, a Write with a lock":         {bareShared, lock(write(1, 8, 1)), modified, nil, []api.Suspect{suspect(8, 5, shared)}},
		"Shared without guards, a Write":                     {bareShared, []api.Event{owns}, modified, nil, []api.Suspect{suspect(8, 4, shared)}},
		"Modified, a Read with its guard":                    {guardedModified, lock(read(1, 8, 1)), modified, five, nil},
		"Modified, a Read with its guard to read":            {guardedModified, rlock(read(1, 8, 1)), modified, five, nil},
		"Modified, a Write with its guard":                   {guardedModified, under(owns), modified, five, nil},
		"Modified, a Write with its guard to read":           {guardedModified, rlock(write(1, 8, 1)), modified, nil, []api.Suspect{suspect(8, 7, modified)}},
		"Modified, a bare Read":                              {guardedModified, []api.Event{own}, modified, nil, []api.Suspect{suspect(8, 6, modified)}},
		"Modified, a bare Write":                             {guardedModified, []api.Event{write(1, 8, 1)}, modified, nil, []api.Suspect{suspect(8, 6, modified)}},
		"a suspect, again a Read":                            {bareModified, []api.Event{own, read(2, 8, 1)}, modified, nil, nil},
		"a suspect, again a Write":                           {bareModified, []api.Event{owns, write(2, 8, 1)}, modified, nil, nil},
		"a suspect, again with a lock":                       {bareModified, append(lock(write(1, 8, 1)), under(owns)...), modified, nil, nil},
	} {
		t.Run(name, func(t *testing.T) {
			ahead := run(x.ahead...)
			_, before := plainly(t, ahead)
			whole := slices.Concat(ahead, x.then)
			found(t, whole, append(before, x.told...)...)
			guards(t, whole, 8, x.state, x.guards...)
		})
	}
}

// TestLocks: which locks are held for an access, and stay guards.
func TestLocks(t *testing.T) {
	own := write(0, 8, 1)
	both := run(own, acquire(1, 7), racquire(1, 5), acquire(1, 3), racquire(1, 9), read(1, 8, 1))
	guards(t, both, 8, api.Shared, 3, 5, 7, 9)
	holds(t, both)
	wrote := append(slices.Clone(both), write(1, 8, 1))
	guards(t, wrote, 8, api.Modified, 3, 7)
	holds(t, wrote)
	guards(t, append(wrote, read(1, 8, 1)), 8, api.Modified, 3, 7) // what was lost does not come back

	taken := run(own, racquire(1, 5), racquire(1, 5), rrelease(1, 5), read(1, 8, 1))
	guards(t, taken, 8, api.Shared, 5) // held twice, and given back once
	found(t, append(taken, rrelease(1, 5), read(1, 8, 1), write(1, 8, 1)), suspect(8, 9, api.Shared))

	again := run(own, acquire(1, 5), write(1, 8, 1), release(1, 5), acquire(1, 5), write(1, 8, 1))
	found(t, again)
	guards(t, again, 8, api.Modified, 5)
	found(t, run(own, acquire(1, 5), release(1, 5), write(1, 8, 1)), suspect(8, 5, api.Exclusive))
	found(t, run(own, racquire(1, 5), rrelease(1, 5), acquire(1, 5), write(1, 8, 1), release(1, 5), racquire(1, 5), read(1, 8, 1)))
	found(t, run(acquire(0, 5), own, write(1, 8, 1)), suspect(8, 4, api.Exclusive))                                              // another one's lock
	found(t, run(own, acquire(1, 5), write(1, 8, 1), release(1, 5), acquire(2, 6), write(2, 8, 1)), suspect(8, 7, api.Modified)) // unlike ones

	shared := run(own, racquire(1, 5), racquire(2, 5), read(1, 8, 1), read(2, 8, 1), rrelease(1, 5), read(2, 8, 1))
	found(t, shared)
	guards(t, shared, 8, api.Shared, 5)
	found(t, append(shared, read(1, 8, 1), write(2, 8, 1)), suspect(8, 10, api.Shared))
}

// TestNumbersOfLocks: any numbers may be locks, and have nothing to do with addresses, nor with other sorts.
func TestNumbersOfLocks(t *testing.T) {
	numbers := []uint64{0, 1, 2, 8, 63, 64, 1 << 32, 1<<63 - 1, 1 << 63, top - 1, top}
	whole := run(write(0, 8, 1))
	for _, lock := range slices.Backward(numbers) {
		whole = append(whole, acquire(1, lock))
		guards(t, append(slices.Clone(whole), write(1, 8, 1)), 8, api.Modified, numbers[slices.Index(numbers, lock):]...)
	}
	whole = append(whole, write(1, 8, 1))
	for k, lock := range numbers { // guards are lost one by one
		guards(t, whole, 8, api.Modified, numbers[k:]...)
		finds(t, whole)
		whole = append(whole, release(1, lock), write(1, 8, 1))
	}
	found(t, whole, suspect(8, len(whole)-1, api.Modified))

	for _, other := range []api.Event{ev(1, api.Make, 5, 1), ev(1, api.Add, 5, 2), ev(1, api.Once, 5, 1), ev(1, api.Store, 5, 0), ev(1, api.Alloc, 5, 1), ev(1, api.Mark, 5, 0)} {
		found(t, run(write(0, 8, 1), other, write(1, 8, 1)), suspect(8, 4, api.Exclusive))
		guards(t, run(write(0, 8, 1), other, acquire(1, 5), write(1, 8, 1)), 8, api.Modified, 5)
	}
}

// TestKinds: nothing but a Read and a Write is an access, though its numbers are those of one.
func TestKinds(t *testing.T) {
	for _, other := range []api.Event{
		ev(1, api.Mark, 8, 4), ev(1, api.Make, 8, 4), ev(1, api.Add, 8, 4), ev(1, api.Once, 8, 1), ev(1, api.Load, 8, 0),
		ev(1, api.Store, 8, 0), ev(1, api.Swap, 8, 0), ev(1, api.Acquire, 8, 0), ev(1, api.RAcquire, 8, 0), ev(1, api.Wait, 8, 0),
	} {
		whole := run(write(0, 8, 4), other)
		found(t, whole)
		guards(t, whole, 8, api.Exclusive)
		found(t, run(other, write(0, 8, 4)))
		guards(t, run(other), 8, api.Virgin)
	}
}

// TestBytes: accesses that have bytes in common, at either end, or none; at the ends of lines and of memory.
func TestBytes(t *testing.T) {
	for _, base := range []uint64{0, 8, 61, 64, 127, 1<<32 - 3, 1<<63 - 5, top - 200} {
		for _, size := range []uint64{1, 2, 8, 63, 64} {
			for _, other := range []uint64{1, 2, 64} {
				begin := base + 66
				for address := begin - other - 1; address <= begin+size+1; address++ {
					whole := run(write(0, begin, size), write(1, address, other))
					var want []api.Suspect
					for k := range other {
						if b := address + k; b >= begin && b < begin+size {
							want = append(want, suspect(b, 3, api.Exclusive))
						}
					}
					finds(t, whole, want...)
					states(t, whole, begin-66, begin+size+66)
				}
			}
		}
	}
	found(t, run(write(0, 0, 1), write(1, 0, 64)), suspect(0, 3, api.Exclusive))
	found(t, run(write(0, top, 1), write(1, top-63, 64)), suspect(top, 3, api.Exclusive))
	found(t, run(write(0, top-63, 64), write(1, 0, 64)))
	found(t, run(write(0, top-64, 64), write(1, top, 1)))
	found(t, run(write(0, 0, 1), write(1, 1, 1), write(1, 64, 1), write(1, 1<<32, 1), write(1, 1<<63, 1)))
}

// states fails if Guards of a few bytes in a range are others than a run's two accesses, the last events,
// leave behind.
func states(t *testing.T, run []api.Event, from, to uint64) {
	t.Helper()
	a, b := run[len(run)-2], run[len(run)-1]
	for _, address := range []uint64{from, a.Obj - 1, a.Obj, a.Obj + a.Arg - 1, a.Obj + a.Arg, b.Obj - 1, b.Obj, b.Obj + b.Arg - 1, b.Obj + b.Arg, to} {
		touches := 0
		for _, e := range []api.Event{a, b} {
			if slices.Contains(bytesOf(e), address) {
				touches++
			}
		}
		guards(t, run, address, []int{api.Virgin, api.Exclusive, api.Modified}[touches])
	}
}

// TestOrder: the answers go by places, those of one access by addresses, whatever became of the bytes ahead
// of it.
func TestOrder(t *testing.T) {
	whole := run(
		write(0, 70, 2), write(0, 8, 2), write(0, 60, 2), write(0, 63, 2),
		read(1, 71, 1), read(1, 61, 1), read(1, 64, 1), acquire(1, 5), write(1, 9, 1), write(1, 60, 1), release(1, 5),
		write(1, 56, 20), write(1, 8, 2), write(1, 70, 2))
	found(t, whole,
		suspect(60, 13, api.Modified), suspect(61, 13, api.Shared), suspect(63, 13, api.Exclusive), suspect(64, 13, api.Shared),
		suspect(70, 13, api.Exclusive), suspect(71, 13, api.Shared),
		suspect(8, 14, api.Exclusive), suspect(9, 14, api.Modified))
	backward := run()
	for address := uint64(140); address > 0; address-- {
		backward = append(backward, write(0, address, 1))
	}
	var want []api.Suspect
	for k := range uint64(64) {
		want = append(want, suspect(40+k, len(backward), api.Exclusive))
	}
	found(t, append(backward, write(1, 40, 64)), want...)
}

// TestGoroutines: owners of any numbers.
func TestGoroutines(t *testing.T) {
	const last = api.MaxG - 1
	forks := []api.Event{ev(0, api.Fork, 0, last), fork1, ev(0, api.Fork, 0, 1<<15)}
	for _, owner := range []int{0, 1, 1 << 15, last} {
		for _, other := range []int{0, 1, 1 << 15, last} {
			whole := append(slices.Clone(forks), write(owner, 8, 1), write(other, 8, 1))
			if owner == other {
				found(t, whole)
				guards(t, whole, 8, api.Exclusive)
			} else {
				found(t, whole, suspect(8, 4, api.Exclusive))
			}
		}
	}
}

// TestLives: an Alloc or a Free that covers all of the bytes, some, or none, whoever does it; behind it they
// are Virgin, and may become suspects again.
func TestLives(t *testing.T) {
	const begin, size = 60, 8 // over the end of a line
	own, other := write(0, begin, size), write(1, begin, size)
	for from := uint64(50); from < 75; from++ {
		for bytes := uint64(1); bytes < 25; bytes++ {
			var all, kept, again []api.Suspect // by the access at 4; those of them that are not covered; by the access at 7 the others
			for k := range uint64(size) {
				all = append(all, suspect(begin+k, 4, api.Exclusive))
				if begin+k < from || begin+k >= from+bytes {
					kept = append(kept, suspect(begin+k, 4, api.Exclusive))
				} else {
					again = append(again, suspect(begin+k, 7, api.Exclusive))
				}
			}
			for g := range 3 {
				life, end := alloc(g, from, bytes), free(2-g, from, bytes)
				finds(t, run(own, life, other), kept...)
				finds(t, run(life, own, other, end, own, other), append(all, again...)...)
			}
			holds(t, run(own, other, alloc(2, from, bytes), other, own))
		}
	}
}

// TestGuardsOfLives: what Guards answers behind an Alloc and a Free, and in the lives behind them.
func TestGuardsOfLives(t *testing.T) {
	whole := run()
	add := func(state int, locks []uint64, events ...api.Event) {
		t.Helper()
		whole = append(whole, events...)
		guards(t, whole, 8, state, locks...)
		holds(t, whole)
	}
	add(api.Virgin, nil)
	add(api.Virgin, nil, alloc(0, 8, 4))
	add(api.Exclusive, nil, write(0, 8, 1))
	add(api.Shared, []uint64{5}, racquire(1, 5), read(1, 8, 2), rrelease(1, 5))
	add(api.Virgin, nil, free(1, 8, 4))
	add(api.Exclusive, nil, read(1, 8, 1)) // who was the other one is the owner
	add(api.Exclusive, nil, write(1, 8, 1))
	add(api.Modified, nil, write(0, 8, 1))
	add(api.Virgin, nil, alloc(2, 4, 5))
	add(api.Exclusive, nil, write(0, 8, 1))
	add(api.Modified, []uint64{6}, acquire(2, 6), write(2, 8, 1), release(2, 6))
	add(api.Modified, []uint64{6}, alloc(0, 9, 1), alloc(0, 0, 4), free(0, 9, 1)) // beside it
	add(api.Modified, nil, read(0, 8, 1))
	add(api.Virgin, nil, free(0, 4, 5))
	add(api.Exclusive, nil, write(2, 8, 1))
	add(api.Modified, nil, write(1, 8, 1))
	finds(t, whole, suspect(8, 10, api.Exclusive), suspect(8, 19, api.Modified), suspect(8, 22, api.Exclusive))
}

// TestLongLives: the longest Alloc and Free that there may be, at either end of memory and between.
func TestLongLives(t *testing.T) {
	for _, begin := range []uint64{0, 1, 63, 64, 1 << 20, 1<<64 - api.MaxLife} {
		end := begin + (api.MaxLife - 1)
		for _, address := range []uint64{begin, begin + 1, begin + 62, begin + 32768, end - 62, end} {
			whole := run(alloc(0, begin, api.MaxLife), write(1, address, 1), free(0, begin, api.MaxLife), write(0, address, 1))
			found(t, whole)
			guards(t, whole, address, api.Exclusive)
			guards(t, whole[:5], address, api.Virgin)
			found(t, slices.Delete(slices.Clone(whole), 4, 5), suspect(address, 4, api.Exclusive))
			found(t, run(write(1, address, 1), alloc(0, begin, api.MaxLife), write(0, address, 1)))
		}
		for _, address := range []uint64{begin - 1, end + 1} {
			found(t, run(write(1, address, 1), alloc(0, begin, api.MaxLife), write(0, address, 1)), suspect(address, 4, api.Exclusive))
		}
	}
}
