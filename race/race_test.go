package race_test

import (
	"slices"
	"testing"

	"hindsight/api"
	"hindsight/race"
)

func at(first, second int) api.Race { return api.Race{First: first, Second: second} }

// TestExamples are those of the chapter.
func TestExamples(t *testing.T) {
	one := []api.Event{fork1, write(1, 8, 4), read(0, 8, 4), join1, read(0, 8, 4)}
	found(t, one, at(1, 2))
	found(t, []api.Event{fork1, write(1, 8, 4), join1, read(0, 8, 4)})

	two := []api.Event{fork1, read(1, 8, 4), read(0, 8, 4)}
	found(t, two)
	found(t, append(two, write(1, 11, 1)), at(2, 3))

	found(t, []api.Event{fork1, write(1, 8, 1), write(1, 9, 1), write(0, 8, 2)}, at(2, 3))
	found(t, []api.Event{fork1, fork2, write(1, 8, 1), write(2, 8, 1), read(0, 8, 1)}, at(2, 3), at(2, 4), at(3, 4))

	refused(t, []api.Event{fork1, write(1, 8, 4), ev(0, api.Free, 8, 4)}, 2, api.ErrBad)
	found(t, []api.Event{fork1, write(1, 8, 4), ev(0, api.Alloc, 8, 4), write(0, 8, 4)})
	found(t, []api.Event{fork1, write(1, 8, 4), ev(0, api.Alloc, 8, 2), write(0, 8, 4)}, at(1, 3))

	locked := func(take, give int) []api.Event {
		return []api.Event{fork1, ev(0, take, 5, 0), write(0, 8, 1), ev(0, give, 5, 0), ev(1, take, 5, 0), write(1, 8, 1), ev(1, give, 5, 0)}
	}
	found(t, locked(api.Acquire, api.Release))
	found(t, locked(api.RAcquire, api.RRelease), at(2, 5))

	d := race.New()
	for k, words := range []int{0, 4, 4, 4, 4} {
		added(t, d, one[k], [][]api.Race{{}, {}, {at(1, 2)}, {}, {}}[k]...)
		if d.Words() != words {
			t.Errorf("P19.4: behind %d: Words = %d, want %d", k, d.Words(), words)
		}
	}

	refused(t, []api.Event{ev(1, api.Mark, 0, 0)}, 0, api.ErrBad)
	answers(t, nil)
	answers(t, []api.Event{})
}

// TestKinds: two reads are no race; each other pair of accesses is; nothing else is an access, though its
// numbers are those of one.
func TestKinds(t *testing.T) {
	for _, first := range []int{api.Read, api.Write} {
		for _, second := range []int{api.Read, api.Write} {
			run := []api.Event{fork1, ev(1, first, 8, 4), ev(0, second, 8, 4)}
			if first == api.Read && second == api.Read {
				found(t, run)
			} else {
				found(t, run, at(1, 2))
			}
		}
	}
	for _, other := range []api.Event{
		ev(1, api.Mark, 8, 4), ev(1, api.Make, 8, 4), ev(1, api.Alloc, 8, 4), ev(1, api.Add, 8, 4), ev(1, api.Once, 8, 1),
		ev(1, api.Load, 8, 0), ev(1, api.Store, 8, 0), ev(1, api.Swap, 8, 0), ev(1, api.Acquire, 8, 0),
	} {
		found(t, []api.Event{fork1, other, write(0, 8, 4)})
		found(t, []api.Event{fork1, write(0, 8, 4), other})
	}
}

// TestBytes: what two accesses have in common, at either end, at the ends of lines and of memory.
func TestBytes(t *testing.T) {
	const top = 1<<64 - 1
	for _, base := range []uint64{0, 8, 61, 63, 64, 100, 127, 1000, 1<<32 - 3, 1<<63 - 5, top - 200} {
		for _, size := range []uint64{1, 2, 7, 8, 63, 64} {
			for _, other := range []uint64{1, 2, 8, 64} {
				begin := base + 66
				for address := begin - other - 1; address <= begin+size+1; address++ {
					run := []api.Event{fork1, write(1, begin, size), write(0, address, other)}
					if address+other > begin && address < begin+size {
						answers(t, run, at(1, 2))
					} else {
						answers(t, run)
					}
				}
			}
		}
	}
	found(t, []api.Event{fork1, write(1, 0, 1), read(0, 0, 64)}, at(1, 2))
	found(t, []api.Event{fork1, write(1, top, 1), read(0, top-63, 64)}, at(1, 2))
	found(t, []api.Event{fork1, write(1, top, 1), read(0, 0, 1)})
	found(t, []api.Event{fork1, write(1, top-63, 64), write(0, 0, 64)})
	found(t, []api.Event{fork1, write(1, top-64, 64), write(0, top, 1)})
	found(t, []api.Event{fork1, write(1, 0, 1), read(0, 1<<32, 1), read(0, 64, 1), read(0, 1<<63, 1)})
}

// TestLatest: of one goroutine's accesses it is the latest that races, whatever it did later.
func TestLatest(t *testing.T) {
	store, load := ev(1, api.Store, 5, 0), ev(0, api.Load, 5, 0)
	for name, x := range map[string]struct {
		run  []api.Event
		want []api.Race
	}{
		"of several writes":                     {[]api.Event{fork1, write(1, 8, 1), write(1, 8, 1), write(1, 8, 1), read(0, 8, 1)}, []api.Race{at(3, 4)}},
		"a read behind a write, for a write":    {[]api.Event{fork1, write(1, 8, 1), read(1, 8, 1), write(0, 8, 1)}, []api.Race{at(2, 3)}},
		"a write behind a read, for a write":    {[]api.Event{fork1, read(1, 8, 1), write(1, 8, 1), write(0, 8, 1)}, []api.Race{at(2, 3)}},
		"the latest reads as the second does":   {[]api.Event{fork1, write(1, 8, 1), read(1, 8, 1), read(0, 8, 1)}, []api.Race{at(1, 3)}},
		"the latest touches another byte":       {[]api.Event{fork1, write(1, 8, 1), write(1, 9, 1), write(0, 8, 1)}, []api.Race{at(1, 3)}},
		"the latest is of another life":         {[]api.Event{fork1, write(1, 8, 1), write(1, 9, 1), ev(0, api.Alloc, 9, 1), write(0, 8, 2)}, []api.Race{at(1, 4)}},
		"the earlier ones happen before it":     {[]api.Event{fork1, write(1, 8, 1), store, load, write(1, 8, 1), write(0, 8, 1)}, []api.Race{at(4, 5)}},
		"all happen before it":                  {[]api.Event{fork1, write(1, 8, 1), write(1, 8, 1), store, load, write(0, 8, 1)}, nil},
		"over several bytes":                    {[]api.Event{fork1, write(1, 8, 1), write(1, 10, 1), write(1, 9, 1), write(0, 8, 4)}, []api.Race{at(3, 4)}},
		"over two lines":                        {[]api.Event{fork1, write(1, 64, 1), write(1, 63, 1), write(0, 60, 8)}, []api.Race{at(2, 3)}},
		"over two lines, the other way round":   {[]api.Event{fork1, write(1, 63, 1), write(1, 64, 1), write(0, 60, 8)}, []api.Race{at(2, 3)}},
		"each second place has its own":         {[]api.Event{fork1, write(1, 8, 1), write(0, 8, 1), write(0, 8, 1), write(1, 8, 1)}, []api.Race{at(1, 2), at(1, 3), at(3, 4)}},
		"a write ahead of what is known later":  {[]api.Event{fork1, write(1, 8, 1), read(0, 8, 1), write(1, 8, 1), store, load, write(0, 8, 1)}, []api.Race{at(1, 2), at(2, 3)}},
		"a read that a later write knows":       {[]api.Event{fork1, read(1, 8, 1), store, load, write(0, 8, 1), write(1, 8, 1)}, []api.Race{at(4, 5)}},
		"what the last writer raced with":       {[]api.Event{fork1, fork2, write(2, 8, 1), write(1, 8, 1), store, load, write(0, 8, 1)}, []api.Race{at(2, 3), at(2, 6)}},
		"what read behind the last write known": {[]api.Event{fork1, fork2, write(1, 8, 1), store, load, read(2, 8, 1), write(0, 8, 1)}, []api.Race{at(2, 5), at(5, 6)}},
	} {
		holds(t, x.run)
		if got, _, _ := race.All(x.run); !slices.Equal(got, x.want) {
			t.Errorf("P19.1: %s: %v, want %v", name, got, x.want)
		}
	}
}

// TestGoroutines: several first goroutines, of any numbers; the answers go by places, not by these numbers.
func TestGoroutines(t *testing.T) {
	const last = api.MaxG - 1
	forks := []api.Event{ev(0, api.Fork, 0, last), fork1, ev(0, api.Fork, 0, 1<<15)}
	found(t, append(forks, write(1, 8, 1), write(last, 8, 1), read(1<<15, 8, 1), write(0, 8, 1)),
		at(3, 4), at(3, 5), at(4, 5), at(3, 6), at(4, 6), at(5, 6))
	found(t, append(forks, read(last, 8, 1), read(1<<15, 9, 1), read(1, 10, 1), write(0, 8, 3), write(1, 9, 1)),
		at(3, 6), at(4, 6), at(5, 6), at(4, 7), at(6, 7))
	found(t, append(forks, write(last, 10, 1), write(1, 8, 1), write(last, 8, 1), write(1, 10, 1), read(0, 8, 1), read(0, 10, 1), read(0, 8, 4)),
		at(4, 5), at(3, 6), at(4, 7), at(5, 7), at(3, 8), at(6, 8), at(5, 9), at(6, 9))
}

// TestLives: an Alloc or a Free between two accesses that covers all bytes that they have in common, some,
// or none; whoever does it.
func TestLives(t *testing.T) {
	const begin, size = 60, 8 // over the end of a line
	for _, g := range []int{0, 1, 2} {
		for from := uint64(50); from < 75; from++ {
			for bytes := uint64(1); bytes < 25; bytes++ {
				life := ev(g, api.Alloc, from, bytes)
				covers := from <= begin && from+bytes >= begin+size
				run := []api.Event{fork1, fork2, write(1, begin, size), life, write(0, begin, size)}
				freed := []api.Event{fork1, fork2, life, write(1, begin, size), ev(g, api.Free, from, bytes), write(0, begin, size)}
				ahead := []api.Event{fork1, fork2, life, write(1, begin, size), write(0, begin, size)}
				if covers {
					answers(t, run)
					answers(t, freed)
				} else {
					answers(t, run, at(2, 4))
					answers(t, freed, at(3, 5))
				}
				answers(t, ahead, at(3, 4))
				answers(t, append(ahead, ev(g, api.Free, from, bytes)), at(3, 4))
			}
		}
	}
	holds(t, []api.Event{fork1, write(1, 60, 8), ev(0, api.Alloc, 60, 4), ev(1, api.Alloc, 64, 4), write(0, 60, 8)})
	found(t, []api.Event{fork1, write(1, 60, 8), ev(0, api.Alloc, 60, 4), ev(1, api.Alloc, 64, 4), write(0, 60, 8)})
	found(t, []api.Event{fork1, write(1, 60, 8), ev(0, api.Alloc, 60, 4), read(0, 60, 4), ev(1, api.Alloc, 64, 4), write(1, 60, 8)}, at(3, 5))
}

// TestLongLives: the longest Alloc and Free that there may be, at either end of memory and between.
func TestLongLives(t *testing.T) {
	for _, begin := range []uint64{0, 1, 63, 64, 1 << 20, 1<<64 - api.MaxLife} {
		end := begin + (api.MaxLife - 1)
		for _, address := range []uint64{begin, begin + 1, begin + 62, begin + 32768, end - 62, end} {
			run := []api.Event{fork1, ev(0, api.Alloc, begin, api.MaxLife), write(1, address, 1), ev(0, api.Free, begin, api.MaxLife), write(0, address, 1)}
			answers(t, run)
			answers(t, slices.Delete(slices.Clone(run), 3, 4), at(2, 3))
			answers(t, []api.Event{fork1, write(1, address, 1), ev(0, api.Alloc, begin, api.MaxLife), write(0, address, 1)})
		}
		for _, address := range []uint64{begin - 1, end + 1} {
			found(t, []api.Event{fork1, write(1, address, 1), ev(0, api.Alloc, begin, api.MaxLife), write(0, address, 1)}, at(1, 3))
		}
	}
}
