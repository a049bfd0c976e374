package race

import (
	"slices"
	"testing"

	"hindsight/api"
)

// fed is a search that has taken some events of a run.
func fed(events ...api.Event) search {
	s := newSearch()
	for _, e := range events {
		s.take(e)
	}
	return s
}

// touches are how many accesses a search keeps of each of the bytes from 60 to 67.
func (s search) touches() []int {
	var list []int
	for address := uint64(60); address < 68; address++ {
		p, n := s.memory.At(address), 0
		for _, h := range []history{p.all, p.rest} {
			n += len(h.reads) + len(h.writes)
		}
		list = append(list, n)
	}
	return list
}

// keeps fails if a search keeps something of another number of bytes, or another number of accesses.
func keeps(t *testing.T, s search, words int, touches ...int) {
	t.Helper()
	if got := s.touches(); s.memory.Words() != words || !slices.Equal(got, touches) {
		t.Errorf("it keeps %d bytes, and %v accesses, not %d and %v", s.memory.Words(), got, words, touches)
	}
}

// TestKeepsNoMore: of each goroutine the last read and the last write; and nothing of what an Alloc or a
// Free covers.
func TestKeepsNoMore(t *testing.T) {
	access := func(g, kind int, address, bytes uint64) api.Event {
		return api.Event{G: g, Kind: kind, Obj: address, Arg: bytes}
	}
	fork := api.Event{Kind: api.Fork, Arg: 1}
	s := fed(fork)
	keeps(t, s, 0, 0, 0, 0, 0, 0, 0, 0, 0)
	for range 100 {
		s.take(access(0, api.Write, 60, 8))
	}
	keeps(t, s, 8, 1, 1, 1, 1, 1, 1, 1, 1)
	for range 100 {
		s.take(access(1, api.Read, 60, 8)) // behind a write it is kept twice
	}
	keeps(t, s, 8, 3, 3, 3, 3, 3, 3, 3, 3)
	s.take(access(1, api.Write, 61, 1)) // it races with the write, not with the own read
	keeps(t, s, 8, 3, 4, 3, 3, 3, 3, 3, 3)
	s.take(access(0, api.Alloc, 61, 1))
	keeps(t, s, 7, 3, 0, 3, 3, 3, 3, 3, 3)
	s.take(access(0, api.Alloc, 62, 2))
	keeps(t, s, 5, 3, 0, 0, 0, 3, 3, 3, 3)
	s.take(access(0, api.Alloc, 64, 65536))
	keeps(t, s, 1, 3, 0, 0, 0, 0, 0, 0, 0)
	s.take(access(0, api.Free, 64, 65536))
	keeps(t, s, 1, 3, 0, 0, 0, 0, 0, 0, 0)
	s.take(access(0, api.Read, 64, 64)) // where there is no write it is kept once
	s.take(access(1, api.Read, 64, 64))
	keeps(t, s, 65, 3, 0, 0, 0, 2, 2, 2, 2)
	s.take(access(0, api.Alloc, 64, 64))
	s.take(access(0, api.Alloc, 60, 1))
	keeps(t, s, 0, 0, 0, 0, 0, 0, 0, 0, 0)
}

// TestRest: a write that knows all ahead of it leaves nothing to be held against who knows it.
func TestRest(t *testing.T) {
	var events []api.Event
	for g := 1; g < 50; g++ {
		events = append(events, api.Event{Kind: api.Fork, Arg: uint64(g)})
	}
	for g := range 50 {
		events = append(events, api.Event{G: g, Kind: api.Acquire}, api.Event{G: g, Kind: api.Read, Obj: 60, Arg: 1}, api.Event{G: g, Kind: api.Write, Obj: 60, Arg: 1}, api.Event{G: g, Kind: api.Release})
	}
	s := fed(events...)
	keeps(t, s, 1, 100, 0, 0, 0, 0, 0, 0, 0)
	if rest := s.memory.At(60).rest; len(rest.reads)+len(rest.writes) != 0 {
		t.Errorf("the rest is %v", rest)
	}
}
