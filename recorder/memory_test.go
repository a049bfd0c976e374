package recorder_test

import (
	"bytes"
	"math/rand"
	"slices"
	"testing"

	"hindsight/api"
	"hindsight/event"
	"hindsight/recorder"
	"hindsight/samples"
)

// roomy is a copy of bytes with spare room behind it, and that copy with its room.
func roomy(b []byte) (list, whole []byte) {
	lists, wholes := samples.Roomy([][]byte{b})
	return lists[0], wholes[0]
}

func TestTapeKeepsNothing(t *testing.T) {
	for n := range 40 {
		part, whole := roomy(bytes.Repeat([]byte{5}, n))
		was := slices.Clone(whole)
		x, _ := recorder.LoadTape(part, 999)
		x.Append(part)
		x.Append([]byte{1, 2, 3})
		x.Append(part)
		x.Sync()
		x.Append([]byte{9})
		x.Crash(1, 2)
		if !bytes.Equal(whole, was) {
			t.Fatalf("P14.13: %d bytes that were handed in, and the room behind them, are %v", n, whole)
		}
		want := x.Bytes()
		samples.Spoil(part, 66)
		if got := x.Bytes(); !bytes.Equal(got, want) {
			t.Fatalf("P14.13: %d bytes that were handed in are kept: %v", n, got)
		}
	}
}

func TestTapeAnswersNewMemory(t *testing.T) {
	for n := range 40 {
		want := bytes.Repeat([]byte{5}, n)
		x, _ := recorder.LoadTape(want[:n/2], 999)
		x.Append(want[n/2:])
		a, b, c, d := x.Bytes(), x.Bytes(), x.Durable(), x.Durable()
		samples.Spoil(a, 66)
		samples.Spoil(c, 77)
		if !bytes.Equal(b, want) || !bytes.Equal(d, want[:n/2]) || !bytes.Equal(x.Bytes(), want) || !bytes.Equal(x.Durable(), want[:n/2]) {
			t.Fatalf("P14.13: an answer of %d bytes shares memory", n)
		}
		_ = append(x.Durable(), 88, 88, 88) // the bytes behind it are not its room
		_ = append(x.Bytes(), 99)
		x.Append(nil)
		if !bytes.Equal(x.Bytes(), want) {
			t.Fatalf("P14.13: an answer of %d bytes has the tape's room", n)
		}
	}
}

// TestEmitKeepsNothing: neither a stack's list nor the room behind it.
func TestEmitKeepsNothing(t *testing.T) {
	r := rand.New(rand.NewSource(149))
	for range 50 {
		events := samples.Trace(r.Intn, 30)
		want := taped(t, 64, events...)
		x, _ := recorder.NewTape(99999)
		rec, _ := recorder.New(x, 64)
		for _, e := range events {
			room := append(slices.Clone(e.Stack), "spare", "room")
			e.Stack = room[:len(room)-2]
			was := slices.Clone(room)
			if fault := rec.Emit(e); fault != api.OK {
				t.Fatalf("P14.8: Emit = %d", fault)
			}
			if !slices.Equal(room, was) {
				t.Fatalf("P14.13: the stack that was handed in is %q", room)
			}
			samples.Spoil(room, "spoilt")
		}
		rec.Sync()
		if !bytes.Equal(x.Bytes(), want) {
			t.Fatalf("P14.13: a stack that was handed in is kept")
		}
	}
}

// TestRecorderSeesTheTapeAlone: what is done to answers is nothing to a recorder.
func TestRecorderSeesTheTapeAlone(t *testing.T) {
	events := samples.Events(rand.New(rand.NewSource(150)).Intn, 60, 3)
	want := taped(t, 64, events...)
	b := slices.Clone(want[:26])
	x, _ := recorder.LoadTape(b, 99999)
	rec, _ := recorder.New(x, 64)
	for _, e := range events {
		rec.Emit(e)
		samples.Spoil(b, 1)
		samples.Spoil(x.Bytes(), 2)
		samples.Spoil(x.Durable(), 3)
	}
	rec.Sync()
	if got := x.Durable(); !bytes.Equal(got, want) {
		t.Errorf("P14.13: other bytes are recorded")
	}
}

func TestRecoverKeepsNothing(t *testing.T) {
	r := rand.New(rand.NewSource(151))
	for range 50 {
		events := samples.Trace(r.Intn, 40)
		part, whole := roomy(taped(t, 64, events...))
		was := slices.Clone(whole)
		one, _, _ := recorder.Recover(part)
		two, _, _ := recorder.Recover(part)
		if !bytes.Equal(whole, was) {
			t.Fatalf("P14.13: the bytes that were handed in, or the room behind them, changed")
		}
		samples.Spoil(part, 66)
		if !sameEvents(one, events) {
			t.Fatalf("P14.13: the bytes that were handed in are kept")
		}
		// No two events share a list, nor the room behind it.
		for k := range one {
			samples.Spoil(one[k].Stack, "spoilt")
			_ = append(one[k].Stack, "spoilt", "spoilt")
			for l := k + 1; l < len(one); l++ {
				if !event.Same(one[l], events[l]) {
					t.Fatalf("P14.13: the events %d and %d share a list", k, l)
				}
			}
		}
		samples.Spoil(one, api.Event{})
		if !sameEvents(two, events) {
			t.Fatalf("P14.13: two answers share memory")
		}
	}
}

// TestTwoTapes: two tapes, and two recorders on them, have nothing to do with each other.
func TestTwoTapes(t *testing.T) {
	r := rand.New(rand.NewSource(152))
	for range 20 {
		first, second := samples.Trace(r.Intn, 40), samples.Trace(r.Intn, 40)
		x, _ := recorder.NewTape(99999)
		y, _ := recorder.LoadTape(nil, 99999)
		one, _ := recorder.New(x, 64)
		other, _ := recorder.New(y, 100)
		for k := range max(len(first), len(second)) {
			if k < len(first) {
				one.Emit(first[k])
			}
			if k < len(second) {
				other.Emit(second[k])
			}
			if one.Len() != min(k+1, len(first)) || other.Len() != min(k+1, len(second)) {
				t.Fatalf("P0.3: Len %d and %d", one.Len(), other.Len())
			}
		}
		one.Sync()
		if len(y.Durable()) != 0 {
			t.Fatalf("P0.3: a Sync of another tape")
		}
		other.Sync()
		if !bytes.Equal(x.Durable(), taped(t, 64, first...)) || !bytes.Equal(y.Durable(), taped(t, 100, second...)) {
			t.Fatalf("P0.3: two recorders write other bytes than each alone")
		}
	}
}

func TestNil(t *testing.T) {
	var x *recorder.Tape
	for _, b := range [][]byte{nil, {}, {1, 2}} {
		if e := x.Append(b); e != api.ErrNil {
			t.Errorf("P14.2: Append to nil = %d", e)
		}
	}
	if e := x.Sync(); e != api.ErrNil {
		t.Errorf("P14.2: Sync of nil = %d", e)
	}
	for _, n := range []int{-1, 0, 1} {
		if e := x.Fuse(n); e != api.ErrNil {
			t.Errorf("P14.3: Fuse(%d) of nil = %d", n, e)
		}
		for _, bit := range []int{-2, -1, 0, 1} {
			if e := x.Crash(n, bit); e != api.ErrNil {
				t.Errorf("P14.4: Crash(%d, %d) of nil = %d", n, bit, e)
			}
		}
	}
	if len(x.Bytes())+len(x.Durable()) != 0 {
		t.Errorf("P14.13: a nil tape has bytes")
	}
	// A recorder that New did not make has no tape: it answers as none does, and does not panic.
	for _, r := range []*recorder.Recorder{nil, new(recorder.Recorder)} {
		for _, e := range []api.Event{mark(0), {}, {Kind: 22, Stack: make([]string, 17)}} {
			if e := r.Emit(e); e != api.ErrNil {
				t.Errorf("P14.8: Emit of nil = %d", e)
			}
		}
		if e := r.Flush(); e != api.ErrNil {
			t.Errorf("P14.9: Flush of nil = %d", e)
		}
		if e := r.Sync(); e != api.ErrNil {
			t.Errorf("P14.9: Sync of nil = %d", e)
		}
		if r.Len() != 0 || r.Held() != 0 {
			t.Errorf("P14.10: Len %d, Held %d of nil", r.Len(), r.Held())
		}
	}
	// A tape that NewTape did not make takes no bytes.
	y := new(recorder.Tape)
	if e := y.Append([]byte{1}); e != api.ErrTape || y.Append(nil) != api.OK || y.Sync() != api.OK || y.Fuse(1) != api.OK || y.Crash(0, -1) != api.OK || len(y.Bytes())+len(y.Durable()) != 0 {
		t.Errorf("P0.1: a zero tape: %d", e)
	}
	if r, e := recorder.New(y, 64); r != nil || e != api.ErrTape {
		t.Errorf("P0.1: New on a zero tape = %v, %d", r, e)
	}
}
