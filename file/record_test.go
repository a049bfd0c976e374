package file_test

import (
	"bytes"
	"math/rand"
	"slices"
	"strings"
	"testing"

	"hindsight/api"
	"hindsight/crc"
	"hindsight/file"
	"hindsight/frame"
	"hindsight/samples"
)

func TestNoEvents(t *testing.T) {
	for _, none := range [][]api.Event{nil, {}} {
		fs := split(t, record(t, none, 64))
		head := []byte{1, 64, 0, 0, 0, 0}
		sum := crc.Sum(head)
		foot := []byte{1, byte(sum), byte(sum >> 8), byte(sum >> 16), byte(sum >> 24)}
		want := []api.Frame{{Kind: 1, Body: head}, {Kind: 5, Ord: 1, Body: foot}}
		if !slices.EqualFunc(fs, want, sameFrame) {
			t.Errorf("P11.1: the file of no events has the frames %v, want %v", fs, want)
		}
		if b, _ := file.Record(none, 64); len(b) != 26+25 {
			t.Errorf("P11.1: the file of no events has %d bytes", len(b))
		}
	}
}

func sameFrame(a, b api.Frame) bool {
	return a.Kind == b.Kind && a.Stream == b.Stream && a.Ord == b.Ord && bytes.Equal(a.Body, b.Body)
}

func TestOneMark(t *testing.T) {
	for _, stack := range [][]string{nil, {}} {
		fs := split(t, record(t, []api.Event{{Kind: api.Mark, Stack: stack}}, 64))
		head, events := []byte{1, 64, 1, 1, 0, 0}, []byte{22, 0}
		foot, _ := frame.EncodeFoot(api.Foot{Frames: 2, Sum: crc.Sum(slices.Concat(head, events))})
		want := []api.Frame{{Kind: 1, Body: head}, {Kind: 4, Ord: 1, Body: events}, {Kind: 5, Ord: 2, Body: foot}}
		if !slices.EqualFunc(fs, want, sameFrame) {
			t.Errorf("P11.1: the file of one mark has the frames %v, want %v", fs, want)
		}
	}
}

// TestFrames: a file whose frames are written out by hand.
func TestFrames(t *testing.T) {
	long := strings.Repeat("x", 70)
	trace := []api.Event{
		mark(7, "f", "main"),
		{G: 300, Kind: api.Read, Obj: 1000, Arg: 8, Stack: []string{long, "main"}},
		{G: 7, Kind: api.Write, Obj: 1000, Arg: 8, Stack: []string{"f", "main"}},
		{G: 0, Kind: api.Fork, Arg: 7},
	}
	bodies := []struct {
		kind, stream int
		body         []byte
	}{
		{1, 0, []byte{1, 64, 4, 3, 3, 3}},
		{2, 0, []byte("\x00\x04main\x01f")},
		{2, 0, []byte("\x02\x46" + long)},
		{3, 0, []byte{1, 0, 0, 0, 1, 1, 2}},
		{4, 0, []byte{7 + 64, 3, 7}},
		{4, 7, []byte{22 + 128, 0, 4, 2 + 32 + 64, 1, 208, 15, 8}},
		{4, 300, []byte{1 + 32 + 64 + 128, 1, 208, 15, 8, 6}},
	}
	var want []api.Frame
	var all []byte
	for k, x := range bodies {
		want = append(want, api.Frame{Kind: x.kind, Stream: x.stream, Ord: k, Body: x.body})
		all = append(all, x.body...)
	}
	sum := crc.Sum(all)
	want = append(want, api.Frame{Kind: 5, Ord: 7, Body: []byte{7, byte(sum), byte(sum >> 8), byte(sum >> 16), byte(sum >> 24)}})
	if fs := split(t, record(t, trace, 64)); !slices.EqualFunc(fs, want, sameFrame) {
		t.Errorf("P11.1: the frames are %v, want %v", fs, want)
	}
}

// notRecorded holds a trace and a limit for which there is no file against the error.
func notRecorded(t *testing.T, trace []api.Event, limit int, want api.Errno) {
	t.Helper()
	if b, e := file.Record(trace, limit); len(b) != 0 || e != want {
		t.Errorf("P11.1: Record of %d events, for the limit %d = %d bytes, %d, want %d", len(trace), limit, len(b), e, want)
	}
}

func TestRecordLimits(t *testing.T) {
	for _, limit := range wrongLimits() {
		notRecorded(t, nil, limit, api.ErrArg)
		notRecorded(t, []api.Event{mark(0)}, limit, api.ErrArg)
		notRecorded(t, []api.Event{{}}, limit, api.ErrArg) // the limit goes ahead of the trace
	}
	for _, limit := range []int{minLimit, minLimit + 1, maxLimit - 1, maxLimit} {
		for _, trace := range [][]api.Event{nil, {mark(0)}, rich()} {
			loads(t, "P11.6", record(t, trace, limit), trace, api.OK)
		}
	}
}

// TestRecordBounds: a trace that is not within bounds, at any place; the first event that is wrong counts.
func TestRecordBounds(t *testing.T) {
	for _, x := range []struct {
		bad   api.Event
		fault api.Errno
	}{
		{api.Event{}, api.ErrKind},
		{api.Event{Kind: 23, G: -1}, api.ErrKind},
		{api.Event{Kind: api.Mark, G: -1}, api.ErrG},
		{api.Event{Kind: api.Mark, G: maxG}, api.ErrG},
		{api.Event{Kind: api.Fork, Obj: 1, Arg: 1}, api.ErrObj},
		{api.Event{Kind: api.Read, Obj: 8}, api.ErrSize},
		{mark(0, make([]string, 17)...), api.ErrSite},
		{mark(0, "f", strings.Repeat("x", 65537)), api.ErrSite},
	} {
		for place := range 4 {
			trace := slices.Repeat([]api.Event{mark(1, "f", "main")}, 4)
			trace[place] = x.bad
			notRecorded(t, trace, 64, x.fault)
			notRecorded(t, append(trace, api.Event{}, mark(-1)), 1000, x.fault)
		}
	}
}

// TestNoRun: what the events do to each other is not asked.
func TestNoRun(t *testing.T) {
	trace := []api.Event{{G: 9, Kind: api.Release, Obj: 4}, {G: 9, Kind: api.Release, Obj: 4}, {G: 65535, Kind: api.Join, Arg: 65535}, {Kind: api.Free, Arg: 8}}
	loads(t, "P11.6", record(t, trace, 64), trace, api.OK)
}

// TestSmallTraces: all traces of at most four events out of a few.
func TestSmallTraces(t *testing.T) {
	few := []api.Event{
		mark(0),
		mark(1, "a"),
		mark(0, "a", "b"),
		{G: 65535, Kind: api.Write, Obj: 1<<64 - 1, Arg: 1, Stack: []string{"b", "a"}},
		mark(1, ""),
	}
	traces := [][]api.Event{nil}
	for from, n := 0, 4; n > 0; n-- {
		to := len(traces)
		for _, trace := range traces[from:to] {
			for _, e := range few {
				traces = append(traces, append(slices.Clip(trace), e))
			}
		}
		from = to
	}
	files := map[string]int{}
	for _, trace := range traces {
		b := record(t, trace, 64)
		loads(t, "P11.6", b, trace, api.OK)
		files[string(b)]++
	}
	if len(traces) != 781 || len(files) != len(traces) {
		t.Errorf("P11.6: %d traces have %d files", len(traces), len(files))
	}
}

// TestSomeTraces: the file is the one of the chapter's words, and is read back.
func TestSomeTraces(t *testing.T) {
	r := rand.New(rand.NewSource(112))
	for range 2000 {
		trace, limit := samples.Trace(r.Intn, 120), samples.Limit(r.Intn)
		b := record(t, trace, limit)
		loads(t, "P11.6", b, trace, api.OK)
		if head, e := file.Peek(b); e != api.OK || head.Limit != limit || head.Events != len(trace) {
			t.Fatalf("P11.3: Peek of a file of %d events, for the limit %d = %v, %d", len(trace), limit, head, e)
		}
		if want := samples.Sealed(drafted(trace, limit).frames()); !bytes.Equal(b, want) {
			t.Fatalf("P11.1: the file is not that of its draft")
		}
	}
}

// TestRich: the test's own trace has what it is said to have.
func TestRich(t *testing.T) {
	count := map[[2]int]int{}
	for _, f := range split(t, record(t, rich(), 64)) {
		count[[2]int{f.Kind, f.Stream}]++
	}
	for _, of := range [][2]int{{2, 0}, {3, 0}, {4, 0}, {4, 1}, {4, 3}, {4, 65535}} {
		if count[of] < 3 {
			t.Errorf("the frames of the kind %d, stream %d: %d", of[0], of[1], count[of])
		}
	}
}

// TestCuts: for unlike limits a trace has unlike files (the head tells the limit), and all are read alike.
func TestCuts(t *testing.T) {
	trace, files := rich(), map[string]int{}
	limits := []int{64, 65, 66, 70, 100, 127, 128, 129, 1000, 16383, 16384, 1048575, 1048576}
	for _, limit := range limits {
		b := record(t, trace, limit)
		loads(t, "P11.6", b, trace, api.OK)
		files[string(b)]++
		for _, f := range split(t, b) {
			if len(f.Body) > limit && f.Kind != api.FrameStrings {
				t.Errorf("P11.1: for the limit %d a body of %d bytes, of the kind %d", limit, len(f.Body), f.Kind)
			}
		}
	}
	if len(files) != len(limits) {
		t.Errorf("P11.6: for %d limits there are %d files", len(limits), len(files))
	}
}
