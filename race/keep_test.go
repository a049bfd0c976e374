package race

import (
	"testing"

	"hindsight/api"
)

// fed is a search that has taken some events of a run.
func fed(events ...api.Event) search {
	s := newSearch()
	for _, e := range events {
		s.take(e)
	}
	return s
}

func (m memory) count() (lines, cells, touches int) {
	for _, list := range m.lines {
		cells += len(list)
		for _, c := range list {
			for _, h := range []history{c.all, c.rest} {
				touches += len(h.reads) + len(h.writes)
			}
		}
	}
	return len(m.lines), cells, touches
}

// keeps fails if a search keeps another number of lines, cells and accesses.
func keeps(t *testing.T, s search, lines, cells, touches int) {
	t.Helper()
	if l, c, n := s.memory.count(); l != lines || c != cells || n != touches {
		t.Errorf("it keeps %d lines, %d cells, %d accesses, not %d, %d, %d", l, c, n, lines, cells, touches)
	}
}

// TestKeepsNoMore: of each goroutine the last read and the last write, for bytes that were touched alike
// once; and nothing of what an Alloc or a Free covers.
func TestKeepsNoMore(t *testing.T) {
	access := func(g, kind int, address, bytes uint64) api.Event {
		return api.Event{G: g, Kind: kind, Obj: address, Arg: bytes}
	}
	fork := api.Event{Kind: api.Fork, Arg: 1}
	s := fed(fork)
	keeps(t, s, 0, 0, 0)
	for range 100 {
		s.take(access(0, api.Write, 60, 8))
	}
	keeps(t, s, 2, 2, 2)
	for range 100 {
		s.take(access(1, api.Read, 60, 8)) // behind a write it is kept twice
	}
	keeps(t, s, 2, 2, 6)
	s.take(access(1, api.Write, 61, 1)) // it cuts one cell, and races with the write, not with the own read
	keeps(t, s, 2, 3, 10)
	s.take(access(0, api.Alloc, 61, 1))
	keeps(t, s, 2, 2, 6)
	s.take(access(0, api.Alloc, 62, 2))
	keeps(t, s, 2, 2, 6)
	s.take(access(0, api.Alloc, 60, 1))
	keeps(t, s, 1, 1, 3)
	s.take(access(0, api.Alloc, 64, 65536))
	keeps(t, s, 0, 0, 0)
	s.take(access(0, api.Free, 64, 65536))
	keeps(t, s, 0, 0, 0)
	s.take(access(0, api.Read, 64, 64)) // where there is no write it is kept once
	s.take(access(1, api.Read, 64, 64))
	keeps(t, s, 1, 1, 2)
	s.take(access(0, api.Alloc, 64, 64))
	if s.memory.words != 0 {
		t.Errorf("P19.4: %d words", s.memory.words)
	}
}

// TestRest: a write that knows all ahead of it leaves nothing to be held against who knows it.
func TestRest(t *testing.T) {
	var events []api.Event
	for g := 1; g < 50; g++ {
		events = append(events, api.Event{Kind: api.Fork, Arg: uint64(g)})
	}
	for g := range 50 {
		events = append(events, api.Event{G: g, Kind: api.Acquire}, api.Event{G: g, Kind: api.Read, Arg: 1}, api.Event{G: g, Kind: api.Write, Arg: 1}, api.Event{G: g, Kind: api.Release})
	}
	s := fed(events...)
	keeps(t, s, 1, 1, 100)
	if rest := s.memory.lines[0][0].rest; len(rest.reads)+len(rest.writes) != 0 {
		t.Errorf("the rest is %v", rest)
	}
}
