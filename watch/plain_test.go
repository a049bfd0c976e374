package watch_test

import (
	"slices"
	"testing"

	"hindsight/api"
	"hindsight/check"
	"hindsight/event"
	"hindsight/file"
	"hindsight/race"
	"hindsight/recorder"
	"hindsight/watch"
)

// What the chapter says, read plainly: each answer is worked out of all bytes anew.

// plainVerdict is the verdict of a trace, or its error.
func plainVerdict(trace []api.Event) (api.Verdict, api.Errno) {
	if _, fault := event.Bounds(trace); fault != api.OK {
		return api.Verdict{}, fault
	}
	v := api.Verdict{Events: len(trace)}
	v.Bad, v.Reason, _ = check.Run(trace)
	if v.Bad == -1 {
		v.Races, _, _ = race.All(trace)
	}
	return v, api.OK
}

// plain is a watch that keeps all bytes.
type plain struct {
	bytes  []byte
	used   int // so many bytes their events take
	said   api.Verdict
	closed bool
}

func plainNew() *plain { return &plain{said: api.Verdict{Bad: -1}} }

func (p *plain) push(b []byte) ([]api.Race, api.Errno) {
	if p.closed {
		return nil, api.ErrDone
	}
	if len(p.bytes)+len(b) > api.MaxTape {
		return nil, api.ErrLarge
	}
	ahead := p.said.Events
	p.bytes = append(p.bytes, b...)
	events, used, _ := recorder.Recover(p.bytes)
	if p.used = used; len(events) > ahead {
		p.said, _ = plainVerdict(events)
	}
	var told []api.Race
	for _, r := range p.said.Races {
		if r.Second >= ahead {
			told = append(told, r)
		}
	}
	return told, api.OK
}

func (p *plain) close() (api.Verdict, api.Errno) {
	if p.closed {
		return api.Verdict{}, api.ErrDone
	}
	p.closed = true
	if p.used < len(p.bytes) {
		return api.Verdict{}, api.ErrSpoilt
	}
	return p.said, api.OK
}

// plainRun pushes pieces one by one.
func plainRun(pieces [][]byte, stop int) (api.Verdict, api.Errno) {
	cancelled := stop >= 0 && stop < len(pieces)
	if cancelled {
		pieces = pieces[:stop]
	}
	p := plainNew()
	for _, b := range pieces {
		if _, fault := p.push(b); fault != api.OK {
			return api.Verdict{}, fault
		}
	}
	if cancelled {
		return p.said, api.ErrCancel
	}
	return p.close()
}

// plainLook is what Batch says of one file.
func plainLook(b []byte) (api.Verdict, api.Errno) {
	trace, fault := file.Load(b)
	if fault != api.OK {
		events, used, no := recorder.Recover(b)
		if no != api.OK || used < len(b) {
			return api.Verdict{}, fault
		}
		trace = events
	}
	return plainVerdict(trace)
}

func sameVerdict(a, b api.Verdict) bool {
	return a.Events == b.Events && a.Bad == b.Bad && a.Reason == b.Reason && slices.Equal(a.Races, b.Races)
}

// pair is a watch with a plain one beside it. Each call is made on both, and both must answer alike.
type pair struct {
	t     *testing.T
	watch *watch.Watch
	plain *plain
}

func begin(t *testing.T) *pair {
	t.Helper()
	two := &pair{t, watch.New(), plainNew()}
	if two.watch == nil {
		t.Fatal("P26.2: New is nil")
	}
	two.hold("P26.2: New")
	return two
}

// hold holds what may be asked at any time against the plain watch.
func (two *pair) hold(what string) {
	two.t.Helper()
	want := two.plain.said
	if n, v := two.watch.Events(), two.watch.Sofar(); n != want.Events || !sameVerdict(v, want) {
		two.t.Fatalf("P26.4: behind %s, of %.300v: Events %d, Sofar %v, want %v", what, two.plain.bytes, n, v, want)
	}
}

// push answers which races were told.
func (two *pair) push(b []byte) []api.Race {
	two.t.Helper()
	got, e := two.watch.Push(b)
	want, f := two.plain.push(b)
	if e != f || !slices.Equal(got, want) {
		two.t.Fatalf("P26.3: Push of %d bytes, up to %d of %.300v: %v, %d, want %v, %d", len(b), len(two.plain.bytes), two.plain.bytes, got, e, want, f)
	}
	two.hold("Push")
	return got
}

func (two *pair) close() (api.Verdict, api.Errno) {
	two.t.Helper()
	got, e := two.watch.Close()
	want, f := two.plain.close()
	if e != f || !sameVerdict(got, want) {
		two.t.Fatalf("P26.5: Close, of %.300v: %v, %d, want %v, %d", two.plain.bytes, got, e, want, f)
	}
	two.hold("Close")
	return got, e
}

// pushes pushes pieces, closes the watch, and asks whether the races that were told are those of the whole.
func pushes(t *testing.T, pieces ...[]byte) (api.Verdict, api.Errno) {
	t.Helper()
	two := begin(t)
	var told []api.Race
	for _, b := range pieces {
		told = append(told, two.push(b)...)
	}
	v, e := two.close()
	if all := two.watch.Sofar(); all.Bad == -1 && !slices.Equal(told, all.Races) {
		t.Fatalf("P26.6: in %d pieces: told were %v of %v", len(pieces), told, all.Races)
	}
	return v, e
}

// sized are bytes cut into pieces of one size; the last one may be less.
func sized(b []byte, size int) [][]byte { return slices.Collect(slices.Chunk(b, size)) }

// taped is the recording of events; behind every so many of them it is flushed besides, if that is not 0.
func taped(t *testing.T, events []api.Event, limit, every int) []byte {
	t.Helper()
	x, _ := recorder.NewTape(api.MaxTape)
	r, e := recorder.New(x, limit)
	if e != api.OK {
		t.Fatalf("New = %d", e)
	}
	for k, ev := range events {
		if e := r.Emit(ev); e != api.OK {
			t.Fatalf("Emit = %d", e)
		}
		if every > 0 && k%every == every-1 {
			r.Flush()
		}
	}
	if e := r.Sync(); e != api.OK {
		t.Fatalf("Sync = %d", e)
	}
	return x.Bytes()
}

func filed(t *testing.T, events []api.Event, limit int) []byte {
	t.Helper()
	b, e := file.Record(events, limit)
	if e != api.OK {
		t.Fatalf("Record = %d", e)
	}
	return b
}
