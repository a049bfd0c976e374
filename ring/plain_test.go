package ring_test

import (
	"bytes"
	"slices"
	"testing"

	"hindsight/api"
	"hindsight/event"
	"hindsight/file"
	"hindsight/ring"
)

// plain is a ring in the chapter's words: it keeps all that was taken.
type plain struct {
	size int
	all  []api.Event
}

func (p *plain) emit(e api.Event) api.Errno {
	if fault := event.Check(e); fault != api.OK {
		return fault
	}
	e.Stack = slices.Clone(e.Stack)
	p.all = append(p.all, e)
	return api.OK
}

// held are the events that were taken last, as many as the size says, or all, if fewer were taken.
func (p *plain) held() []api.Event {
	if len(p.all) < p.size {
		return p.all
	}
	return p.all[len(p.all)-p.size:]
}

func (p *plain) lost() int { return len(p.all) - len(p.held()) }

func (p *plain) window(n int) []api.Event {
	var out []api.Event
	held := p.held()
	for k, e := range held {
		behind := 0
		for _, f := range held[k+1:] {
			if f.G == e.G {
				behind++
			}
		}
		if behind < n {
			out = append(out, e)
		}
	}
	return out
}

// pair is a ring and a plain one that are told the same.
type pair struct {
	t     *testing.T
	ring  *ring.Ring
	plain *plain
}

func newPair(t *testing.T, size int) pair {
	t.Helper()
	r, e := ring.New(size)
	if r == nil || e != api.OK {
		t.Fatalf("P15.1: New(%d) = %v, %d", size, r, e)
	}
	return pair{t, r, &plain{size: size}}
}

// emit tells both an event, and answers what both say to it.
func (p pair) emit(e api.Event) api.Errno {
	p.t.Helper()
	got, want := p.ring.Emit(e), p.plain.emit(e)
	if got != want {
		p.t.Fatalf("P15.2: Emit(%v) = %d, want %d", e, got, want)
	}
	return got
}

// counts holds the two numbers against the plain ones.
func (p pair) counts() {
	p.t.Helper()
	if n, want := p.ring.Len(), len(p.plain.held()); n != want {
		p.t.Fatalf("P15.3: of a ring of %d that took %d: Len = %d, want %d", p.plain.size, len(p.plain.all), n, want)
	}
	if n, want := p.ring.Lost(), p.plain.lost(); n != want {
		p.t.Fatalf("P15.3: of a ring of %d that took %d: Lost = %d, want %d", p.plain.size, len(p.plain.all), n, want)
	}
}

func (p pair) snapshot() {
	p.t.Helper()
	if got, want := p.ring.Snapshot(), p.plain.held(); !same(got, want) {
		p.t.Fatalf("P15.4: of a ring of %d that took %v: Snapshot = %v, want %v", p.plain.size, p.plain.all, got, want)
	}
}

func (p pair) window(n int) {
	p.t.Helper()
	if got, want := p.ring.Window(n), p.plain.window(n); !same(got, want) {
		p.t.Fatalf("P15.6: of a ring of %d that took %v: Window(%d) = %v, want %v", p.plain.size, p.plain.all, n, got, want)
	}
}

// file holds the file against that of the plain ring, and answers the error of both.
func (p pair) file(limit int) api.Errno {
	p.t.Helper()
	got, e := p.ring.File(limit)
	want, f := file.Record(p.plain.held(), limit)
	if e != f || !bytes.Equal(got, want) {
		p.t.Fatalf("P15.5: of a ring of %d that took %v: File(%d) = %v, %d, want %v, %d", p.plain.size, p.plain.all, limit, got, e, want, f)
	}
	return e
}

// all holds all that can be asked against the plain answers.
func (p pair) all(limit int, windows ...int) {
	p.t.Helper()
	p.counts()
	p.snapshot()
	p.file(limit)
	for _, n := range windows {
		p.window(n)
	}
}

func same(a, b []api.Event) bool { return slices.EqualFunc(a, b, event.Same) }

// mark is an event goroutine/Obj, as the chapter's examples write it.
func mark(g, obj int) api.Event { return api.Event{G: g, Kind: api.Mark, Obj: uint64(obj)} }
