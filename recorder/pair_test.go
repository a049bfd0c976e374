package recorder_test

import (
	"bytes"
	"slices"
	"testing"

	"hindsight/api"
	"hindsight/event"
	"hindsight/recorder"
)

// pair is a tape with a plain one beside it, and what records onto them, if anything does. Each call is made
// on both, and both must answer alike.
type pair struct {
	t     *testing.T
	tape  *recorder.Tape
	plain *plainTape
	rec   *recorder.Recorder
	like  *plainRecorder
}

func load(t *testing.T, b []byte, most int) *pair {
	t.Helper()
	x, e := recorder.LoadTape(b, most)
	p, f := plainLoad(b, most)
	if e != f || (x != nil) != (e == api.OK) {
		t.Fatalf("P14.1: LoadTape(%d bytes, %d) = %v, %d, want %d", len(b), most, x, e, f)
	}
	if e != api.OK {
		return nil
	}
	two := &pair{t: t, tape: x, plain: p}
	two.hold("P14.1: LoadTape")
	return two
}

// hold holds all that is told against the plain ones.
func (two *pair) hold(what string) {
	two.t.Helper()
	if got, want := two.tape.Bytes(), two.plain.bytes(); !bytes.Equal(got, want) {
		two.t.Fatalf("%s: Bytes are %v, want %v", what, got, want)
	}
	if got, want := two.tape.Durable(), two.plain.durable(); !bytes.Equal(got, want) {
		two.t.Fatalf("%s: Durable are %v, want %v", what, got, want)
	}
	if two.like == nil {
		return
	}
	if n, held := two.rec.Len(), two.rec.Held(); n != two.like.len() || held != len(two.like.held) {
		two.t.Fatalf("%s: Len %d, Held %d, want %d, %d", what, n, held, two.like.len(), len(two.like.held))
	}
}

// alike holds two answers against each other, and all that is told behind them.
func (two *pair) alike(what string, got, want api.Errno) api.Errno {
	two.t.Helper()
	if got != want {
		two.t.Fatalf("%s = %d, want %d", what, got, want)
	}
	two.hold(what)
	return got
}

func (two *pair) append(b []byte) api.Errno {
	two.t.Helper()
	return two.alike("P14.2: Append", two.tape.Append(b), two.plain.append(b))
}

func (two *pair) syncTape() api.Errno {
	two.t.Helper()
	return two.alike("P14.2: Sync", two.tape.Sync(), two.plain.sync())
}

func (two *pair) fuse(n int) api.Errno {
	two.t.Helper()
	return two.alike("P14.3: Fuse", two.tape.Fuse(n), two.plain.setFuse(n))
}

// crash ends what is recorded: of a recorder that goes on over a crash nothing is said.
func (two *pair) crash(keep, bit int) api.Errno {
	two.t.Helper()
	two.rec, two.like = nil, nil
	return two.alike("P14.4: Crash", two.tape.Crash(keep, bit), two.plain.crash(keep, bit))
}

// record begins to record, or goes on.
func (two *pair) record(limit int) api.Errno {
	two.t.Helper()
	two.rec, two.like = nil, nil
	r, e := recorder.New(two.tape, limit)
	like, f := plainNew(two.plain, limit)
	if e != f || (r != nil) != (e == api.OK) {
		two.t.Fatalf("P14.6: New(.., %d) = %v, %d, want %d", limit, r, e, f)
	}
	two.rec, two.like = r, like
	two.hold("P14.6: New")
	return e
}

func (two *pair) emit(e api.Event) api.Errno {
	two.t.Helper()
	return two.alike("P14.8: Emit", two.rec.Emit(e), two.like.emit(e))
}

func (two *pair) flush() api.Errno {
	two.t.Helper()
	return two.alike("P14.9: Flush", two.rec.Flush(), two.like.flush())
}

func (two *pair) sync() api.Errno {
	two.t.Helper()
	return two.alike("P14.9: Sync", two.rec.Sync(), two.like.sync())
}

func sameEvents(a, b []api.Event) bool { return slices.EqualFunc(a, b, event.Same) }

// recovered holds Recover against the plain one, and answers what it tells.
func recovered(t *testing.T, b []byte) ([]api.Event, int) {
	t.Helper()
	got, n, e := recorder.Recover(b)
	want, m := plainRecover(b)
	if e != api.OK || n != m || !sameEvents(got, want.events) {
		t.Fatalf("P14.5: Recover(%.300v) = %d events, %d bytes, %d, want %d, %d", b, len(got), n, e, len(want.events), m)
	}
	return got, n
}

// taped records events onto a tape with much room, and answers its bytes.
func taped(t *testing.T, limit int, events ...api.Event) []byte {
	t.Helper()
	x, _ := recorder.NewTape(maxTape)
	r, e := recorder.New(x, limit)
	if e != api.OK {
		t.Fatalf("P14.6: New = %d", e)
	}
	for _, ev := range events {
		if e := r.Emit(ev); e != api.OK {
			t.Fatalf("P14.8: Emit = %d", e)
		}
	}
	if e := r.Sync(); e != api.OK {
		t.Fatalf("P14.9: Sync = %d", e)
	}
	return x.Bytes()
}

// mark is an event of three bytes, or of as many as its goroutine's number makes.
func mark(g int) api.Event { return api.Event{G: g, Kind: api.Mark} }

// marks are marks of the goroutine 0.
func marks(n int) []api.Event { return slices.Repeat([]api.Event{mark(0)}, n) }
