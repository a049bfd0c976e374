package file_test

import (
	"bytes"
	"maps"
	"slices"
	"strconv"
	"strings"
	"testing"

	"hindsight/api"
	"hindsight/crc"
	"hindsight/event"
	"hindsight/file"
	"hindsight/frame"
	"hindsight/merge"
	"hindsight/samples"
	"hindsight/stacks"
	"hindsight/stream"
	"hindsight/strtab"
)

// The limits, as the chapters write them.
const (
	minLimit  = 64
	maxLimit  = 1048576
	maxFile   = 67108864
	maxEvents = 1048576
	maxG      = 65536
)

func wrongLimits() []int {
	return []int{minLimit - 1, maxLimit + 1, 0, 1, -1, -minLimit, -1 << 63, 1<<63 - 1, 1<<32 + minLimit}
}

func sameTrace(a, b []api.Event) bool { return slices.EqualFunc(a, b, event.Same) }

func mark(g int, stack ...string) api.Event {
	return api.Event{G: g, Kind: api.Mark, Stack: stack}
}

// record is the file of a trace, which must be the one that the chapter's words make.
func record(t *testing.T, trace []api.Event, limit int) []byte {
	t.Helper()
	b, e := file.Record(trace, limit)
	if e != api.OK {
		t.Fatalf("P11.1: Record of %d events, for the limit %d = %d", len(trace), limit, e)
	}
	if want := plainFile(trace, limit); !bytes.Equal(b, want) {
		t.Fatalf("P11.1: Record of %d events, for the limit %d: %v, want %v", len(trace), limit, b, want)
	}
	return b
}

// loads holds what Load answers against what it must, and, of a file that is good, against the other calls.
func loads(t *testing.T, what string, b []byte, want []api.Event, fault api.Errno) {
	t.Helper()
	got, e := file.Load(b)
	if e != fault || !sameTrace(got, want) {
		t.Fatalf("%s: Load = %d events, %d, want %d events, %d", what, len(got), e, len(want), fault)
	}
	if e != api.OK {
		return
	}
	at, e := event.Bounds(got)
	if at != -1 || e != api.OK {
		t.Fatalf("P11.6: %s: the events that are read are not within bounds: %d, %d", what, at, e)
	}
	head, e := file.Peek(b)
	if e != api.OK {
		t.Fatalf("P11.6: %s: Peek = %v, %d", what, head, e)
	}
	if again, e := file.Record(got, head.Limit); e != api.OK || !bytes.Equal(again, b) {
		t.Fatalf("P11.6: %s: Record of the events that are read is not the file: %d", what, e)
	}
}

// refused holds a file that must not be read against its error.
func refused(t *testing.T, what string, b []byte, fault api.Errno) {
	t.Helper()
	if fault == api.OK {
		t.Fatalf("%s: the test asks for no error", what)
	}
	loads(t, what, b, nil, fault)
}

// plainFile is the file of a trace within bounds, in the chapter's words.
func plainFile(t []api.Event, limit int) []byte {
	table := strtab.New()
	forest := stacks.New(table)
	texts, parts := map[string]int{}, map[string]int{}
	rows := map[int][]api.Rec{}
	for place, e := range t {
		id, _ := forest.Intern(e.Stack)
		rows[e.G] = append(rows[e.G], api.Rec{Stamp: place, Kind: e.Kind, Obj: e.Obj, Arg: e.Arg, Stack: id})
		for k, text := range e.Stack {
			texts[text]++
			parts[quoted(e.Stack[k:])]++
		}
	}
	head, _ := frame.EncodeHead(api.Head{Limit: limit, Events: len(t), Streams: len(rows), Strings: len(texts), Nodes: len(parts)})
	fs := []api.Frame{{Kind: 1, Body: head}}
	bodies, _ := table.Encode(limit)
	for _, body := range bodies {
		fs = append(fs, api.Frame{Kind: 2, Body: body})
	}
	bodies, _ = forest.Encode(limit)
	for _, body := range bodies {
		fs = append(fs, api.Frame{Kind: 3, Body: body})
	}
	for _, g := range slices.Sorted(maps.Keys(rows)) {
		bodies, _ := stream.Encode(rows[g], limit)
		for _, body := range bodies {
			fs = append(fs, api.Frame{Kind: 4, Stream: g, Body: body})
		}
	}
	return samples.Sealed(append(fs, api.Frame{Kind: 5}))
}

// quoted are frames in one text: unlike ones have unlike texts.
func quoted(frames []string) string {
	var b strings.Builder
	for _, f := range frames {
		b.WriteString(strconv.Itoa(len(f)) + ":" + f)
	}
	return b.String()
}

// split are the frames of a file that is good.
func split(t *testing.T, b []byte) []api.Frame {
	t.Helper()
	fs, _, e := frame.Split(b)
	if e != api.OK || len(fs) < 2 {
		t.Fatalf("P11.1: a file of %d frames, %d", len(fs), e)
	}
	return fs
}

// plainLoad reads a file in the chapter's words, step by step.
func plainLoad(b []byte) ([]api.Event, api.Errno) {
	if len(b) > maxFile {
		return nil, api.ErrLarge
	}
	fs, _, e := frame.Split(b)
	if e != api.OK {
		return nil, e
	}
	for place, f := range fs {
		if f.Ord != place {
			return nil, api.ErrPlace
		}
	}
	if len(fs) == 0 || fs[0].Kind != 1 || fs[0].Stream != 0 {
		return nil, api.ErrHead
	}
	head, e := frame.DecodeHead(fs[0].Body)
	if e != api.OK {
		return nil, e
	}
	if e := plainFoot(fs); e != api.OK {
		return nil, e
	}
	inner := fs[1 : len(fs)-1]
	if !plainPlaces(inner) {
		return nil, api.ErrPlace
	}
	table, e := strtab.Decode(plainBodies(inner, 2, 0), head.Limit)
	if e != api.OK {
		return nil, e
	}
	if table.Len() != head.Strings {
		return nil, api.ErrTotal
	}
	forest, e := stacks.Decode(table, plainBodies(inner, 3, 0), head.Limit)
	if e != api.OK {
		return nil, e
	}
	if forest.Len() != head.Nodes {
		return nil, api.ErrTotal
	}
	return plainEvents(b, inner, head, forest)
}

// plainFoot is step 5.
func plainFoot(fs []api.Frame) api.Errno {
	last := len(fs) - 1
	if last == 0 || fs[last].Kind != 5 || fs[last].Stream != 0 {
		return api.ErrFoot
	}
	foot, e := frame.DecodeFoot(fs[last].Body)
	if e != api.OK {
		return e
	}
	var all []byte
	for _, f := range fs[:last] {
		all = append(all, f.Body...)
	}
	if foot.Frames != last || foot.Sum != crc.Sum(all) {
		return api.ErrTotal
	}
	return api.OK
}

// plainPlaces is step 6.
func plainPlaces(inner []api.Frame) bool {
	for k, f := range inner {
		switch f.Kind {
		case 2, 3:
			if f.Stream != 0 {
				return false
			}
		case 4:
		default:
			return false
		}
		if k == 0 {
			continue
		}
		ahead := inner[k-1]
		if f.Kind < ahead.Kind || f.Kind == 4 && ahead.Kind == 4 && f.Stream < ahead.Stream {
			return false
		}
	}
	return true
}

func plainBodies(fs []api.Frame, kind, stream int) [][]byte {
	var bodies [][]byte
	for _, f := range fs {
		if f.Kind == kind && f.Stream == stream {
			bodies = append(bodies, f.Body)
		}
	}
	return bodies
}

// plainEvents are the steps 9 to 12.
func plainEvents(b []byte, inner []api.Frame, head api.Head, forest *stacks.Forest) ([]api.Event, api.Errno) {
	var streams []int
	for _, f := range inner {
		if f.Kind == 4 && !slices.Contains(streams, f.Stream) {
			streams = append(streams, f.Stream)
		}
	}
	slices.Sort(streams)
	var rows []api.Row
	for _, g := range streams {
		recs, e := stream.Decode(plainBodies(inner, 4, g), head.Limit)
		if e != api.OK {
			return nil, e
		}
		rows = append(rows, api.Row{G: g, Recs: recs})
	}
	if len(streams) != head.Streams {
		return nil, api.ErrTotal
	}
	t, ids, e := merge.Merge(rows)
	if e != api.OK {
		return nil, e
	}
	if len(t) != head.Events {
		return nil, api.ErrTotal
	}
	for k := range t {
		if t[k].Stack, e = forest.Stack(ids[k]); e != api.OK {
			return nil, e
		}
	}
	if _, e := event.Bounds(t); e != api.OK {
		return nil, e
	}
	if !bytes.Equal(plainFile(t, head.Limit), b) {
		return nil, api.ErrForm2
	}
	return t, api.OK
}

// plainPeek reads a head in the chapter's words.
func plainPeek(b []byte) (api.Head, api.Errno) {
	f, _, e := frame.Decode(b, 0)
	if e != api.OK {
		return api.Head{}, e
	}
	if f.Kind != 1 || f.Stream != 0 || f.Ord != 0 {
		return api.Head{}, api.ErrHead
	}
	return frame.DecodeHead(f.Body)
}
