package recorder_test

import (
	"bytes"
	"slices"
	"strings"
	"testing"

	"hindsight/api"
	"hindsight/frame"
	"hindsight/recorder"
	"hindsight/samples"
	"hindsight/wire"
)

// onto loads a recording of frames, with the greatest room, and makes a recorder on it.
func onto(t *testing.T, limit int, fs []api.Frame) (*recorder.Tape, *recorder.Recorder) {
	t.Helper()
	x, e := recorder.LoadTape(bodied(fs...), maxTape)
	if e != api.OK {
		t.Fatalf("P14.1: LoadTape = %d", e)
	}
	r, e := recorder.New(x, limit)
	if e != api.OK {
		t.Fatalf("P14.6: New = %d", e)
	}
	return x, r
}

// numbered are frames of records, each of at most MaxLimit bytes, with the numbers from first on.
func numbered(kind, first int, records [][]byte) []api.Frame {
	var fs []api.Frame
	for _, body := range cut(first, records, maxLimit) {
		fs = append(fs, of(kind, body...))
	}
	return fs
}

// fullOf are frames of strings, behind a head with the limit 64.
func fullOf(texts []string) []api.Frame {
	p := newPlain()
	p.texts = texts
	records, _ := p.told(0, 0)
	return append([]api.Frame{begun[0]}, numbered(2, 0, records)...)
}

func TestManyEvents(t *testing.T) {
	x, _ := recorder.NewTape(maxTape)
	r, _ := recorder.New(x, maxLimit)
	for k := range maxEvents {
		if e := r.Emit(mark(k % 128)); e != api.OK {
			t.Fatalf("P14.8: the Emit %d = %d", k, e)
		}
	}
	held, size := r.Held(), len(x.Bytes())
	if r.Len() != maxEvents || held == 0 {
		t.Fatalf("P14.10: Len %d, Held %d", r.Len(), held)
	}
	if e := r.Emit(mark(0)); e != api.ErrLarge || r.Len() != maxEvents || r.Held() != held {
		t.Errorf("P14.8: Emit behind MaxEvents = %d", e)
	}
	if e := r.Emit(api.Event{}); e != api.ErrKind {
		t.Errorf("P14.8: Emit of one that may not be, behind MaxEvents = %d", e)
	}
	if len(x.Bytes()) != size {
		t.Errorf("P14.8: what is refused flushes")
	}
	r.Sync()
	got, n := recovered(t, x.Durable())
	if len(got) != maxEvents || n != len(x.Bytes()) || got[maxEvents-1].G != 127 {
		t.Errorf("P14.11: %d events, %d bytes", len(got), n)
	}
	again, e := recorder.New(x, maxLimit)
	if e != api.OK || again.Len() != maxEvents || again.Held() != 0 {
		t.Fatalf("P14.6: New on MaxEvents events = %d", e)
	}
	if e := again.Emit(mark(0)); e != api.ErrLarge {
		t.Errorf("P14.8: Emit behind MaxEvents = %d", e)
	}
	fs, _, _ := frame.Split(x.Bytes())
	more := append(wire.Uvarint(maxEvents), 0, 22, 0)
	if _, n := recovered(t, bodied(append(fs, of(4, more...))...)); n != len(x.Bytes()) {
		t.Errorf("P14.5: an event behind MaxEvents: %d bytes of %d", n, len(x.Bytes()))
	}
	// One event less: a frame of one may be, a frame of two may not.
	last := &fs[len(fs)-1]
	last.Body = last.Body[:len(last.Body)-3]
	less := bodied(fs...)
	for k := 1; k <= 2; k++ {
		more := append(wire.Uvarint(maxEvents-1), bytes.Repeat([]byte{0, 22, 0}, k)...)
		b := bodied(append(slices.Clone(fs), of(4, more...))...)
		if _, n := recovered(t, b); (n == len(b)) != (k == 1) || n < len(less) {
			t.Errorf("P14.5: %d events behind MaxEvents less 1: %d bytes of %d", k, n, len(b))
		}
	}
}

// TestRefusedBeforeFlush: with MaxEvents events nothing is flushed, however full the body is.
func TestRefusedBeforeFlush(t *testing.T) {
	x, _ := recorder.NewTape(maxTape)
	first, _ := recorder.New(x, 1<<19)
	for range maxEvents - 8 {
		first.Emit(mark(0))
	}
	first.Sync()
	fs, _, _ := frame.Split(x.Bytes())
	fs[0] = begun[0]
	y, r := onto(t, 64, fs)
	for range 8 { // a number of three bytes, and 32 more: more than 34
		if e := r.Emit(mark(200)); e != api.OK {
			t.Fatalf("P14.8: Emit = %d", e)
		}
	}
	size := len(y.Bytes())
	for range 3 {
		if e := r.Emit(mark(0)); e != api.ErrLarge || r.Held() != 8 || r.Len() != maxEvents || len(y.Bytes()) != size {
			t.Errorf("P14.8: Emit = %d, Held %d, Len %d", e, r.Held(), r.Len())
		}
	}
}

// refuses holds a recorder against a stack that can't be interned, with a body under way that is full, and on a
// tape that is full as well; and then lets it take one that can.
func refuses(t *testing.T, fs []api.Frame, bad, good []string) {
	t.Helper()
	bytesOf := bodied(fs...)
	no, yes := api.Event{Kind: 22, Stack: bad}, api.Event{Kind: 22, Stack: good}
	x, r := onto(t, 64, fs)
	was := r.Len()
	if e := r.Emit(no); e != api.ErrLarge || r.Held() != 0 || r.Len() != was {
		t.Errorf("P14.8: Emit of a stack that can't be interned = %d", e)
	}
	for range 12 {
		r.Emit(mark(0))
	}
	if e := r.Emit(no); e != api.ErrLarge || r.Held() != 0 || r.Len() != was+12 || len(x.Bytes()) == len(bytesOf) {
		t.Errorf("P14.8: Emit of a stack that can't be interned, behind a full body = %d, Held %d: the Flush stays made", e, r.Held())
	}
	if e := r.Emit(yes); e != api.OK || r.Sync() != api.OK {
		t.Errorf("P14.8: Emit of a stack that can be interned = %d", e)
	}
	got, n, _ := recorder.Recover(x.Durable())
	if n != len(x.Bytes()) || len(got) != was+13 || !slices.Equal(got[was+12].Stack, good) {
		t.Errorf("P14.11: %d events, %d bytes of %d", len(got), n, len(x.Bytes()))
	}
	y, _ := recorder.LoadTape(bytesOf, len(bytesOf))
	r, _ = recorder.New(y, 64)
	for range 12 {
		r.Emit(mark(0))
	}
	if e := r.Emit(no); e != api.ErrTape || r.Held() != 12 {
		t.Errorf("P14.8: Emit of a stack that can't be interned, on a full tape = %d", e)
	}
}

// behindFull reads records behind frames: of each how it may be.
func behindFull(t *testing.T, kind, first int, fs []api.Frame, records map[string]bool) {
	t.Helper()
	for record, may := range records {
		body := append(wire.Uvarint(uint64(first)), record...)
		b := bodied(append(slices.Clone(fs), of(kind, body...))...)
		if _, n := recovered(t, b); (n == len(b)) != may {
			t.Errorf("P14.5: a record of %d bytes behind %d: %d bytes of %d", len(record), first, n, len(b))
		}
	}
}

func TestManyStrings(t *testing.T) {
	list := samples.Numbered(maxStrings)
	full := fullOf(list)
	behindFull(t, 2, maxStrings, full, map[string]bool{"\x01a": false, "\x00": false, "\x02\x00\x07": false})
	refuses(t, full, []string{"new", list[3]}, []string{list[7], list[9], list[7]})
	one := fullOf(list[:maxStrings-1])
	behindFull(t, 2, maxStrings-1, one, map[string]bool{"\x01a": true, "\x00": true, "\x01a\x01b": false, "\x02\x00\x07": false})
	refuses(t, one, []string{"new", "newer"}, []string{"new", list[9], "new"})
}

func TestMuchText(t *testing.T) {
	list := samples.Longest(maxText / maxSite)
	full := fullOf(list)
	behindFull(t, 2, len(list), full, map[string]bool{"\x01a": false, "\x00": true, "\x00\x01a": false})
	refuses(t, full, []string{"new"}, []string{"", list[3]})
	list[5] = list[5][2:]
	less := fullOf(list)
	behindFull(t, 2, len(list), less, map[string]bool{"\x02ab": true, "\x03abc": false, "\x01a\x01b": true, "\x01a\x02bc": false})
	refuses(t, less, []string{"new"}, []string{"ab", list[3], "ab"})
	// A string that no table takes is none, however much room there is.
	long := strings.Repeat("x", maxSite+1)
	behindFull(t, 2, 2, begun[:2], map[string]bool{"\x80\x80\x04" + long[1:]: true, "\x81\x80\x04" + long: false})
}

// fullNodes are frames of n nodes over two strings and 65534 more: below 0 each string, then each string below the
// first of these, below the first of those, and so on.
func fullNodes(n int) []api.Frame {
	var records [][]byte
	for k := range n {
		parent, text := k/maxStrings, k%maxStrings
		if parent > 1 {
			parent = (parent-1)*maxStrings + 1
		}
		records = append(records, append(wire.Uvarint(uint64(k-parent)), wire.Uvarint(uint64(text))...))
	}
	return append(fullOf(samples.Numbered(maxStrings)), numbered(3, 1, records)...)
}

func TestManyNodes(t *testing.T) {
	list := samples.Numbered(maxStrings)
	for room := range 3 {
		fs := fullNodes(maxNodes - room)
		// Nodes below one that has none below it: the first one ahead of the last.
		records := map[string]bool{}
		for n := 1; n <= room+1; n++ {
			records[strings.Repeat("\x00\x07", n)] = n <= room
		}
		behindFull(t, 3, maxNodes-room+1, fs, records)
		deep := slices.Repeat([]string{list[9]}, 16) // the outermost one has a node
		refuses(t, fs, deep[:room+2], deep[:room+1])
	}
}

// TestLongStrings: a string that is longer than the limit has a frame alone, also beside others.
func TestLongStrings(t *testing.T) {
	long := samples.Longest(3)
	two := load(t, nil, 999999)
	two.record(64)
	two.emit(api.Event{Kind: 22, Stack: []string{"a", long[0], "b", "c", long[1], long[2], "main"}})
	two.emit(api.Event{Kind: 22, Stack: []string{"d", long[0], "b"}})
	two.sync()
	fs, _, _ := frame.Split(two.tape.Bytes())
	var sizes []int
	for _, f := range fs {
		if f.Kind == 2 {
			sizes = append(sizes, len(f.Body))
		}
	}
	// main; the two long ones; c and b; the third one; a and d.
	if !slices.Equal(sizes, []int{6, 65540, 65540, 5, 65540, 5}) {
		t.Errorf("P14.9: bodies of strings have %v bytes", sizes)
	}
	recovered(t, two.tape.Bytes())
}
