package index_test

import (
	"slices"
	"testing"

	"hindsight/api"
	"hindsight/event"
	"hindsight/file"
	"hindsight/frame"
	"hindsight/index"
	"hindsight/stream"
	"hindsight/wire"
)

const maxG = 65536

// plain is what an index must answer, in the chapter's words, out of the trace of which the file was made.
type plain struct {
	trace   []api.Event
	spots   []api.Spot
	stamps  [][]int // of each frame that is a chunk of events those of its records
	touched int
}

// plainIndex takes the frames of a file one by one.
func plainIndex(trace []api.Event, b []byte) *plain {
	p := &plain{trace: trace}
	fs, _, _ := frame.Split(b)
	at := 0
	for _, f := range fs {
		s := api.Spot{Kind: f.Kind, Stream: f.Stream, Ord: f.Ord, From: at, To: at + 20 + len(f.Body), First: -1, Last: -1}
		var stamps []int
		switch f.Kind {
		case 2:
			s.Count = plainStrings(f.Body)
		case 3:
			s.Count = plainNodes(f.Body)
		case 4:
			recs, _ := stream.Chunk(f.Body)
			for _, r := range recs {
				stamps = append(stamps, r.Stamp)
			}
			s.Count, s.First, s.Last = len(stamps), stamps[0], stamps[len(stamps)-1]
		}
		p.spots, p.stamps = append(p.spots, s), append(p.stamps, stamps)
		at = s.To
	}
	return p
}

// plainStrings counts the records of a body of strings: a length and so many bytes each, behind a number.
func plainStrings(body []byte) int {
	_, at, _ := wire.ReadUvarint(body, 0)
	count := 0
	for at < len(body) {
		size, next, _ := wire.ReadUvarint(body, at)
		at = next + int(size)
		count++
	}
	return count
}

// plainNodes counts the records of a body of nodes: two numbers each, behind one.
func plainNodes(body []byte) int {
	count := 0
	for at := 0; at < len(body); count++ {
		_, at, _ = wire.ReadUvarint(body, at)
	}
	return (count - 1) / 2
}

// placesOf are the places of a goroutine's events.
func (p *plain) placesOf(g int) []int {
	var places []int
	for place, e := range p.trace {
		if e.G == g {
			places = append(places, place)
		}
	}
	return places
}

func (p *plain) events(g int) int {
	if g == -1 {
		return len(p.trace)
	}
	return len(p.placesOf(g))
}

func (p *plain) goroutines() []int {
	var gs []int
	for _, e := range p.trace {
		gs = append(gs, e.G)
	}
	slices.Sort(gs)
	return slices.Compact(gs)
}

func (p *plain) read(lo, hi int) ([]api.Event, api.Errno) {
	if !(0 <= lo && lo <= hi && hi <= len(p.trace)) {
		return nil, api.ErrRange
	}
	p.touched = 0
	for _, s := range p.spots {
		if s.Kind == 4 && s.First < hi && s.Last >= lo && lo != hi {
			p.touched++
		}
	}
	return p.trace[lo:hi], api.OK
}

func (p *plain) of(g, nth, most int) ([]api.Event, []int, api.Errno) {
	places := p.placesOf(g)
	if len(places) == 0 {
		return nil, nil, api.ErrG
	}
	if nth < 0 || most < 0 || nth > len(places) {
		return nil, nil, api.ErrRange
	}
	places = places[nth:]
	if len(places) > most {
		places = places[:most]
	}
	var events []api.Event
	for _, place := range places {
		events = append(events, p.trace[place])
	}
	p.touched = 0
	for _, stamps := range p.stamps {
		if slices.ContainsFunc(stamps, func(s int) bool { return slices.Contains(places, s) }) {
			p.touched++
		}
	}
	return events, places, api.OK
}

func sameTrace(a, b []api.Event) bool { return slices.EqualFunc(a, b, event.Same) }

// built is the index of a trace's file, and what it must answer.
func built(t *testing.T, trace []api.Event, limit int) (*index.Index, *plain) {
	t.Helper()
	b, e := file.Record(trace, limit)
	if e != api.OK {
		t.Fatalf("the test's own trace of %d events can't be written for the limit %d: %d", len(trace), limit, e)
	}
	x, e := index.Build(b)
	if x == nil || e != api.OK {
		t.Fatalf("P12.1: Build of the file of %d events, for the limit %d: %d", len(trace), limit, e)
	}
	return x, plainIndex(trace, b)
}

// tells asks an index everything that has no range, of some goroutines, too.
func tells(t *testing.T, x *index.Index, p *plain, gs ...int) {
	t.Helper()
	if got := x.Spots(); !slices.Equal(got, p.spots) {
		t.Fatalf("P12.2: Spots() = %v, want %v", got, p.spots)
	}
	if got := x.Goroutines(); !slices.Equal(got, p.goroutines()) {
		t.Fatalf("P12.3: Goroutines() = %v, want %v", got, p.goroutines())
	}
	for _, g := range slices.Concat(gs, []int{-1, 0, -2, maxG - 1, maxG, -1 << 63, 1<<63 - 1, 1 << 32}) {
		if got := x.Events(g); got != p.events(g) {
			t.Fatalf("P12.3: Events(%d) = %d, want %d", g, got, p.events(g))
		}
	}
	touches(t, x, p, "the questions")
}

func touches(t *testing.T, x *index.Index, p *plain, what string) {
	t.Helper()
	if got := x.Touched(); got != p.touched {
		t.Fatalf("P12.6: behind %s Touched() = %d, want %d", what, got, p.touched)
	}
}

// reads asks one range of an index, and what had to be looked at.
func reads(t *testing.T, x *index.Index, p *plain, lo, hi int) {
	t.Helper()
	got, e := x.Read(lo, hi)
	want, fault := p.read(lo, hi)
	if e != fault || !sameTrace(got, want) {
		t.Fatalf("P12.4: of %d events Read(%d, %d) = %v, %d, want %v, %d", len(p.trace), lo, hi, got, e, want, fault)
	}
	touches(t, x, p, "Read")
}

// finds asks for some of a goroutine's events.
func finds(t *testing.T, x *index.Index, p *plain, g, nth, most int) {
	t.Helper()
	got, stamps, e := x.Of(g, nth, most)
	want, places, fault := p.of(g, nth, most)
	if e != fault || !sameTrace(got, want) || !slices.Equal(stamps, places) {
		t.Fatalf("P12.5: of %d events Of(%d, %d, %d) = %v, %v, %d, want %v, %v, %d", len(p.trace), g, nth, most, got, stamps, e, want, places, fault)
	}
	touches(t, x, p, "Of")
}
