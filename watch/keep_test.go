package watch

import (
	"slices"
	"testing"

	"hindsight/api"
	"hindsight/recorder"
)

// tapeOf is the recording of two writes that race, a frame an event.
func tapeOf(t *testing.T, more ...api.Event) []byte {
	t.Helper()
	x, _ := recorder.NewTape(api.MaxTape)
	r, _ := recorder.New(x, 64)
	write := api.Event{Kind: api.Write, Obj: 8, Arg: 1}
	events := append([]api.Event{{Kind: api.Fork, Arg: 1}, write, write}, more...)
	events[2].G = 1
	for _, e := range events {
		r.Emit(e)
		r.Flush()
	}
	return x.Bytes()
}

// keepsNothing fails if a reader keeps bytes, or room for them.
func (r *reader) keepsNothing(t *testing.T, when string) {
	t.Helper()
	if r.rest != nil {
		t.Errorf("%s there are %d bytes and room for %d", when, len(r.rest), cap(r.rest))
	}
}

// TestKeepsNoMoreBytes: no more than those of a frame that is not whole; none of what can't be read.
func TestKeepsNoMoreBytes(t *testing.T) {
	b := tapeOf(t)
	w := New()
	w.Push(b)
	w.reader.keepsNothing(t, "behind whole frames")
	w.Push(make([]byte, 1<<20))
	w.reader.keepsNothing(t, "behind what is no frame")
	for _, more := range [][]byte{make([]byte, 1<<20), b, b[:10]} {
		w.Push(more)
		w.reader.keepsNothing(t, "behind what comes behind what is no frame")
	}
	if w.reader.recording.Table != nil {
		t.Error("what only more frames would need is kept behind what is no frame")
	}
	w = New()
	w.Push(append(slices.Clone(b), b[:26]...))
	w.reader.keepsNothing(t, "behind a frame that may not be next")
	w = New()
	w.Push(append(slices.Clone(b), b[:10]...))
	if len(w.reader.rest) != 10 || cap(w.reader.rest) > 64 {
		t.Errorf("behind ten bytes of a frame there are %d, with room for %d", len(w.reader.rest), cap(w.reader.rest))
	}
	w.Close()
	w.reader.keepsNothing(t, "behind Close")
	if w.reader.recording.Table != nil {
		t.Error("what only more frames would need is kept behind Close")
	}
}

// TestKeepsNoMoreOfTheEvents: what only further events would need is kept no longer than these may come; and
// no race is, where there is no run.
func TestKeepsNoMoreOfTheEvents(t *testing.T) {
	w := New()
	w.Push(tapeOf(t))
	if w.sight.checker == nil || w.sight.detector == nil || len(w.sight.verdict.Races) != 1 {
		t.Errorf("of a run that goes on there is kept: %v", w.sight)
	}
	w.Close()
	if w.sight.checker != nil || w.sight.detector != nil {
		t.Error("what only further events would need is kept behind Close")
	}
	w = New()
	w.Push(tapeOf(t, api.Event{G: 7, Kind: api.Mark}, api.Event{Kind: api.Mark}))
	if w.sight.checker != nil || w.sight.detector != nil || w.sight.verdict.Races != nil || w.Events() != 5 {
		t.Errorf("of what is no run there is kept: %v", w.sight)
	}
}
