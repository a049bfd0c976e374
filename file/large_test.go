package file_test

import (
	"bytes"
	"slices"
	"testing"

	"hindsight/api"
	"hindsight/file"
	"hindsight/samples"
)

// TestMostBytes: up to MaxFile bytes are read; of one more nothing is looked at.
func TestMostBytes(t *testing.T) {
	room := make([]byte, maxFile+2)
	refused(t, "P11.2: as many bytes as may be", room[:maxFile], api.ErrMagic)
	refused(t, "P11.2: a byte more", room[:maxFile+1], api.ErrLarge)
	refused(t, "P11.2: two bytes more", room, api.ErrLarge)

	good := record(t, rich(), 64)
	copy(room, good)
	refused(t, "P11.2: a file with bytes behind it", room[:maxFile], api.ErrMagic)
	refused(t, "P11.2: a file with too many bytes behind it", room[:maxFile+1], api.ErrLarge)
	if got, e := file.Recut(room[:maxFile+1], 64); e != api.ErrLarge || len(got) != 0 {
		t.Errorf("P11.4: Recut of too many bytes = %d", e)
	}
	if got, e := file.Append(good, room[:maxFile+1]); e != api.ErrLarge || len(got) != 0 {
		t.Errorf("P11.5: Append of too many bytes behind a file = %d", e)
	}
	if got, e := file.Append(room[:maxFile+1], nil); e != api.ErrLarge || len(got) != 0 {
		t.Errorf("P11.5: Append of too many bytes, and of none = %d", e)
	}
	if h, e := file.Peek(room); e != api.OK || h.Events != len(rich()) {
		t.Errorf("P11.3: Peek of a file with too many bytes behind it = %v, %d", h, e)
	}
}

// TestManyFrames: frames without a body, as many as have room in MaxFile bytes.
func TestManyFrames(t *testing.T) {
	one := samples.Joined([]api.Frame{{Kind: 1}})
	refused(t, "P11.2: many frames", bytes.Repeat(one, maxFile/len(one)), api.ErrPlace)

	fs := slices.Repeat([]api.Frame{{Kind: 4}}, 300000)
	fs[0].Kind, fs[0].Body = 1, []byte{1, 64, 0, 0, 0, 0}
	fs[len(fs)-1].Kind = 5
	refused(t, "P11.2: many frames in their places", samples.Sealed(fs), api.ErrForm)
}

// TestMostEvents: as many events as there may be are written and read back; one more is refused, also where
// it comes out of a second file.
func TestMostEvents(t *testing.T) {
	trace := make([]api.Event, maxEvents+1)
	for k := range trace {
		trace[k] = api.Event{G: k % 3, Kind: api.Write, Obj: uint64(k), Arg: 1, Stack: []string{"f", "main"}[:k%2+1]}
	}
	notRecorded(t, trace, 64, api.ErrLarge)
	b := record(t, trace[:maxEvents], 4096)
	loads(t, "P11.6: as many events as may be", b, trace[:maxEvents], api.OK)

	half := maxEvents / 2
	first, _ := file.Record(trace[:half], 4096)
	second, _ := file.Record(trace[half:maxEvents], 64)
	more, _ := file.Record(trace[half:], 64)
	if got, e := file.Append(first, second); e != api.OK || !bytes.Equal(got, b) {
		t.Errorf("P11.5: Append of two halves of a trace is not the file of the whole: %d", e)
	}
	if got, e := file.Append(first, more); e != api.ErrLarge || len(got) != 0 {
		t.Errorf("P11.5: Append of files with too many events = %d bytes, %d", len(got), e)
	}
}

// TestTooManyRecords: streams that each may be, with more records in all than a trace may have. The faults
// of streams behind those with which it is too many go ahead of that, and a count that is not so.
func TestTooManyRecords(t *testing.T) {
	all := drafted(slices.Repeat([]api.Event{mark(0)}, maxEvents), maxLimit).rows[0].Recs
	d := &draft{limit: maxLimit}
	for g, n := range []int{maxEvents - 5, 6, 1, 2} {
		d.rows = append(d.rows, api.Row{G: g, Recs: all[:n]})
	}
	made := func(edits ...func(fs []api.Frame) []api.Frame) []byte {
		// No head can tell so many records: the draft's own is none.
		fs := head(func(h *api.Head) { *h = api.Head{Limit: maxLimit, Events: maxEvents, Streams: len(d.rows)} })(d.frames())
		for _, edit := range edits {
			fs = edit(fs)
		}
		return samples.Sealed(fs)
	}
	fewer := head(func(h *api.Head) { h.Streams-- })
	refused(t, "P11.2: too many records", made(), api.ErrLarge)
	refused(t, "P11.2: too many records, and another count of streams", made(fewer), api.ErrTotal)
	refused(t, "P11.2: too many records, and a fault behind them", made(fewer, behindLast(4, 22)), api.ErrEnd)
	d.rows = d.rows[:2]
	refused(t, "P11.2: one record too many", made(), api.ErrLarge)
	d.rows[1].Recs = all[:5]
	refused(t, "P11.2: as many records as may be, some of them twice", made(), api.ErrDouble)
	d.rows = []api.Row{{G: 0, Recs: all}, {G: 1, Recs: all}, {G: 9, Recs: all}}
	refused(t, "P11.2: many times too many records", made(), api.ErrLarge)
}

// TestMostGoroutines: an event of each.
func TestMostGoroutines(t *testing.T) {
	trace := make([]api.Event, maxG)
	for k := range trace {
		trace[k] = mark(maxG - 1 - k)
	}
	b := record(t, trace, 64)
	loads(t, "P11.6: as many goroutines as may be", b, trace, api.OK)
	if h, e := file.Peek(b); e != api.OK || h.Streams != maxG {
		t.Errorf("P11.3: Peek of a file of all goroutines = %v, %d", h, e)
	}
}

// most are traces that have as many strings, as much text, as many nodes as may be, with an event for which
// there is no more room.
func most() map[string][2][]api.Event {
	single := func(frames ...string) []api.Event {
		var t []api.Event
		for _, f := range frames {
			t = append(t, mark(0, f))
		}
		return t
	}
	var nodes []api.Event
	few := samples.Numbered(512)
	for _, outer := range few {
		for _, inner := range few[1:] {
			nodes = append(nodes, mark(len(nodes)%9, inner, outer))
		}
	}
	return map[string][2][]api.Event{
		"strings": {single(samples.Numbered(65536)...), single("one more")},
		"text":    {single(samples.Longest(64)...), single("x")},
		"nodes":   {nodes, single("one more")},
	}
}

func TestMostStacks(t *testing.T) {
	for what, x := range most() {
		full, more := x[0], x[1]
		whole := record(t, full, 64)
		loads(t, "P11.6: as many "+what+" as may be", whole, full, api.OK)
		notRecorded(t, slices.Concat(full, more), 64, api.ErrLarge)
		half := len(full) / 2
		a, b := record(t, full[:half], 64), record(t, slices.Concat(full[half:], more), 64)
		if got, e := file.Append(a, b); e != api.ErrLarge || len(got) != 0 {
			t.Errorf("P11.5: Append of files with too many %s = %d bytes, %d", what, len(got), e)
		}
		if got, e := file.Append(a, record(t, full[half:], 100)); e != api.OK || !bytes.Equal(got, whole) {
			t.Errorf("P11.5: Append of files with as many %s as may be = %d bytes, %d", what, len(got), e)
		}
	}
}

// TestLongestFile: the longest records, each stream's cut behind each second one, and as many strings and
// nodes as may be: the file has no more than MaxFile bytes.
func TestLongestFile(t *testing.T) {
	frames := samples.Numbered(65536)
	for k := range frames {
		frames[k] += string(bytes.Repeat([]byte{'x'}, 62))
	}
	trace := make([]api.Event, maxEvents)
	for k := range trace {
		// By turns there is no stack, and one of a late node: so each record's stack is far from that ahead.
		e := api.Event{G: k % maxG, Kind: api.Mark, Obj: uint64(k/maxG%2) << 63, Arg: 1<<64 - 1}
		if k/maxG%2 == 0 {
			n := k / maxG / 2 * maxG / 2
			e.Stack = []string{frames[(n+k)%65536], frames[k%4]}
		}
		trace[k] = e
	}
	b, e := file.Record(trace, 64)
	if e != api.OK || len(b) > maxFile || len(b) < maxFile/2 {
		t.Fatalf("P11.1: Record of the longest records = %d bytes, %d", len(b), e)
	}
	if got, e := file.Load(b); e != api.OK || !sameTrace(got, trace) {
		t.Errorf("P11.6: Load of the longest records = %d events, %d", len(got), e)
	}
}
