package recorder_test

import (
	"math/rand"
	"slices"
	"strings"
	"testing"

	"hindsight/api"
	"hindsight/delta"
	"hindsight/frame"
	"hindsight/recorder"
	"hindsight/samples"
	"hindsight/wire"
)

// bodied are frames of a recording by their bodies, each in its place.
func bodied(fs ...api.Frame) []byte {
	fs = slices.Clone(fs)
	for k := range fs {
		fs[k].Ord = k
	}
	return samples.Joined(fs)
}

func of(kind int, body ...byte) api.Frame { return api.Frame{Kind: kind, Body: body} }

// begun are frames of a head, two strings, two nodes and an event.
var begun = []api.Frame{
	of(1, 1, 64, 0, 0, 0, 0),
	of(2, 0, 1, 97, 1, 98),
	of(3, 1, 0, 0, 0, 1),
	of(4, 0, 7, 22+128, 0, 4),
}

func TestTooLong(t *testing.T) {
	all := make([]byte, maxTape+1)
	copy(all, taped(t, 64, marks(3)...))
	if l, n, e := recorder.Recover(all); len(l) != 0 || n != 0 || e != api.ErrLarge {
		t.Errorf("P14.5: Recover of MaxTape bytes and one: %d events, %d, %d", len(l), n, e)
	}
	if l, n, e := recorder.Recover(all[:maxTape]); len(l) != 3 || n != 26+30 || e != api.OK {
		t.Errorf("P14.5: Recover of MaxTape bytes: %d events, %d, %d", len(l), n, e)
	}
}

// TestHeads: what may be the first frame.
func TestHeads(t *testing.T) {
	good := map[string]bool{"\x01\x40\x00\x00\x00\x00": true, "\x01\x7f\x00\x00\x00\x00": true, "\x01\x80\x80\x40\x00\x00\x00\x00": true}
	for _, body := range []string{
		"\x01\x40\x00\x00\x00\x00", "\x01\x7f\x00\x00\x00\x00", "\x01\x80\x80\x40\x00\x00\x00\x00",
		"\x01\x3f\x00\x00\x00\x00", "\x01\x81\x80\x40\x00\x00\x00\x00", "\x02\x40\x00\x00\x00\x00", "\x01\x40\x00\x00\x00", "\x01\x40\x00\x00\x00\x00\x00", "",
		"\x01\x40\x01\x00\x00\x00", "\x01\x40\x00\x01\x00\x00", "\x01\x40\x00\x00\x01\x00", "\x01\x40\x00\x00\x00\x01",
	} {
		for kind := 1; kind <= 6; kind++ {
			b := bodied(of(kind, []byte(body)...), of(4, 0, 0, 22, 0))
			want := 0
			if good[body] && kind == 1 {
				want = len(b)
			}
			if _, n := recovered(t, b); n != want {
				t.Errorf("P14.5: a first frame of the kind %d with the body %q: %d bytes", kind, body, n)
			}
		}
	}
	for _, f := range begun[1:] {
		if _, n := recovered(t, bodied(f)); n != 0 {
			t.Errorf("P14.5: a first frame of the kind %d: %d bytes", f.Kind, n)
		}
	}
}

// TestNextFrames: what may be behind other frames, and what not, with literal bodies.
func TestNextFrames(t *testing.T) {
	for _, c := range []struct {
		name string
		f    api.Frame
		may  bool
	}{
		{"a second head", begun[0], false},
		{"a foot", of(5, 4, 0, 0, 0, 0), false},
		{"a kind that nobody knows", of(6, 1, 0, 22, 0), false},
		{"the kind 255", of(255, 1, 0, 22, 0), false},
		{"no bytes of strings", of(2), false},
		{"no bytes of nodes", of(3), false},
		{"no bytes of events", of(4), false},
		{"no strings", of(2, 2), false},
		{"no nodes", of(3, 3), false},
		{"no events", of(4, 1), false},
		{"a string", of(2, 2, 1, 99), true},
		{"the string without bytes", of(2, 2, 0), true},
		{"strings", of(2, 2, 0, 2, 97, 97, 1, 99), true},
		{"strings that begin too soon", of(2, 1, 1, 99), false},
		{"strings that begin anew", of(2, 0, 1, 99), false},
		{"strings that begin too late", of(2, 3, 1, 99), false},
		{"a string that was there", of(2, 2, 1, 97), false},
		{"a string twice", of(2, 2, 1, 99, 1, 99), false},
		{"a string, then one that was there", of(2, 2, 1, 99, 1, 98), false},
		{"a string that is cut off", of(2, 2, 2, 99), false},
		{"a length that is too long", of(2, 2, 129, 0, 99), false},
		{"a length that is cut off", of(2, 2, 0, 128), false},
		{"a length of 2 to the 64 less 1", of(2, 2, 255, 255, 255, 255, 255, 255, 255, 255, 255, 1), false},
		{"a length of 2 to the 63", of(2, 2, 128, 128, 128, 128, 128, 128, 128, 128, 128, 1), false},
		{"a begin that is too long", of(2, 130, 0, 1, 99), false},
		{"a node below the last one", of(3, 3, 0, 0), true},
		{"a node below 0", of(3, 3, 2, 1), true},
		{"nodes, each below the last one", of(3, 3, 0, 0, 0, 0, 0, 1), true},
		{"nodes that begin too soon", of(3, 2, 0, 0), false},
		{"nodes that begin anew", of(3, 1, 0, 0), false},
		{"nodes that begin too late", of(3, 4, 0, 0), false},
		{"a node that was there, below 0", of(3, 3, 2, 0), false},
		{"a node that was there, below another", of(3, 3, 1, 1), false},
		{"a node twice", of(3, 3, 0, 0, 1, 0), false},
		{"a node below -1", of(3, 3, 3, 0), false},
		{"a node below none", of(3, 3, 255, 255, 255, 255, 255, 255, 255, 255, 255, 1, 0), false},
		{"a new node below none", of(3, 3, 255, 255, 255, 255, 255, 255, 255, 255, 255, 1, 1), false},
		{"a new node below none, by 2 to the 63", of(3, 3, 128, 128, 128, 128, 128, 128, 128, 128, 128, 1, 1), false},
		{"a node without a string", of(3, 3, 0, 2), false},
		{"a node with the string 2 to the 64 less 1", of(3, 3, 0, 255, 255, 255, 255, 255, 255, 255, 255, 255, 1), false},
		{"a node that is cut off", of(3, 3, 0), false},
		{"a node, then one that is cut off", of(3, 3, 0, 0, 0), false},
		{"an event", of(4, 1, 0, 22, 0), true},
		{"an event of the last goroutine", of(4, 1, 255, 255, 3, 22, 0), true},
		{"an event of the goroutine MaxG", of(4, 1, 128, 128, 4, 22, 0), false},
		{"an event of the goroutine 2 to the 64 less 1", of(4, 1, 255, 255, 255, 255, 255, 255, 255, 255, 255, 1, 22, 0), false},
		{"an event of the goroutine 2 to the 32", of(4, 1, 128, 128, 128, 128, 16, 22, 0), false},
		{"events that begin too soon", of(4, 0, 0, 22, 0), false},
		{"events that begin too late", of(4, 2, 0, 22, 0), false},
		{"an event of the first stack", of(4, 1, 0, 22+128, 0, 2), true},
		{"an event of the second stack", of(4, 1, 0, 22+128, 0, 4), true},
		{"an event of the third stack", of(4, 1, 0, 22+128, 0, 6), false},
		{"an event of the stack -1", of(4, 1, 0, 22+128, 0, 1), false},
		{"an event of the second stack, told against the frame ahead", of(4, 1, 0, 22+128, 0, 0), false},
		{"events, the second of which is told against the first one", of(4, 1, 0, 22+128+32, 0, 8, 4, 5, 22+128+32, 0, 7, 1), true},
		{"an event that is a stamp ahead", of(4, 1, 0, 22, 1), false},
		{"events with a gap", of(4, 1, 0, 22, 0, 0, 22, 1), false},
		{"an event that may not be", of(4, 1, 0, 1, 0), false},
		{"an event, then one that may not be", of(4, 1, 0, 22, 0, 0, 7, 0), false},
		{"an event of no kind", of(4, 1, 0, 23, 0), false},
		{"an event that is cut off", of(4, 1, 0, 22), false},
		{"an event, then a goroutine alone", of(4, 1, 0, 22, 0, 0), false},
		{"an event, then a goroutine that is cut off", of(4, 1, 0, 22, 0, 128), false},
		{"a goroutine that is too long", of(4, 1, 128, 0, 22, 0), false},
	} {
		b := bodied(append(slices.Clone(begun), c.f)...)
		events, n := recovered(t, b)
		if (n == len(b)) != c.may || n != len(b) && n != len(bodied(begun...)) {
			t.Errorf("P14.5: %s: %d bytes of %d", c.name, n, len(b))
		}
		if c.f.Kind != 4 && len(events) != 1 {
			t.Errorf("P14.5: %s: %d events", c.name, len(events))
		}
		// Behind one that may not be nothing is taken, even if it could be.
		more := append(slices.Clone(begun), c.f, of(4, byte(len(events)), 3, 22, 0))
		if got, _ := recovered(t, bodied(more...)); c.may != (len(got) == len(events)+1) {
			t.Errorf("P14.5: behind %s: %d events", c.name, len(got)-len(events))
		}
		for _, wrong := range []api.Frame{{Stream: 1}, {Stream: maxG - 1}, {Ord: 3}, {Ord: 5}, {Ord: 0}, {Ord: 1<<32 - 1}, {Ord: 4 + 1<<16}} {
			f := c.f
			f.Stream, f.Ord = wrong.Stream, wrong.Ord
			if wrong.Stream > 0 {
				f.Ord = 4
			}
			b := append(bodied(begun...), samples.Joined([]api.Frame{f})...)
			if _, n := recovered(t, b); n == len(b) {
				t.Errorf("P14.5: %s, with the stream %d and the ord %d", c.name, f.Stream, f.Ord)
			}
		}
	}
}

// TestShortBodies: all short bodies of every kind, behind a few frames.
func TestShortBodies(t *testing.T) {
	whole := map[int]int{}
	for ahead := 1; ahead <= len(begun); ahead++ {
		for _, body := range samples.AllBodies(5, 0, 1, 2, 3, 22, 128, 150) {
			for kind := 1; kind <= 5; kind++ {
				b := bodied(append(slices.Clone(begun[:ahead]), of(kind, body...))...)
				if _, n := recovered(t, b); n == len(b) {
					whole[kind]++
				}
			}
		}
	}
	if whole[1] != 0 || whole[5] != 0 || whole[2] < 20 || whole[3] < 20 || whole[4] < 20 {
		t.Errorf("bodies that may be, by kind: %v", whole)
	}
}

// TestDeepNodes: a chain of MaxDepth nodes may be, in one body and in two; of one more not.
func TestDeepNodes(t *testing.T) {
	for first := 1; first < 18; first++ {
		for second := range 18 - first {
			fs := []api.Frame{begun[0], begun[1], of(3, append([]byte{1}, make([]byte, 2*first)...)...)}
			if second > 0 {
				fs = append(fs, of(3, append([]byte{byte(1 + first)}, make([]byte, 2*second)...)...))
			}
			b := bodied(fs...)
			if _, n := recovered(t, b); (n == len(b)) != (first+second <= maxDepth) {
				t.Errorf("P14.5: a chain of %d and %d nodes: %d bytes of %d", first, second, n, len(b))
			}
		}
	}
}

// otherwise writes events as a recording whose bodies are cut as it happens; strings and nodes may come long
// ahead of the first event that has them, and more of them than any event has.
func otherwise(pick func(int) int, limit int, events []api.Event) []byte {
	body, _ := frame.EncodeHead(api.Head{Limit: limit})
	fs := []api.Frame{of(1, body...)}
	p := newPlain()
	at := 0
	for at < len(events) {
		texts, nodes := len(p.texts), len(p.nodes)
		till := at + 1 + pick(len(events)-at)
		var ids []int
		for _, e := range events[at:till] {
			if pick(9) == 0 {
				p.intern(samples.Stack(pick))
			}
			id, _ := p.intern(e.Stack)
			ids = append(ids, id)
		}
		t, n := p.told(texts, nodes)
		fs = append(fs, anyhow(pick, 2, texts, t)...)
		fs = append(fs, anyhow(pick, 3, nodes+1, n)...)
		for from := at; from < till; {
			to := from + 1 + pick(till-from)
			b := wire.Uvarint(uint64(from))
			s := api.State{Stamp: from}
			for k := from; k < to; k++ {
				e := events[k]
				r, next, _ := delta.Put(s, api.Rec{Stamp: k, Kind: e.Kind, Obj: e.Obj, Arg: e.Arg, Stack: ids[k-at]})
				b, s = slices.Concat(b, wire.Uvarint(uint64(e.G)), r), next
			}
			fs = append(fs, of(4, b...))
			from = to
		}
		at = till
	}
	return bodied(fs...)
}

// anyhow cuts records into bodies as it happens.
func anyhow(pick func(int) int, kind, first int, records [][]byte) []api.Frame {
	var fs []api.Frame
	for from := 0; from < len(records); {
		to := from + 1 + pick(len(records)-from)
		fs = append(fs, of(kind, slices.Concat(append([][]byte{wire.Uvarint(uint64(first + from))}, records[from:to]...)...)...))
		from = to
	}
	return fs
}

// TestCutOtherwise: how the bodies are cut is nothing to a recording that is read, nor to one that goes on.
func TestCutOtherwise(t *testing.T) {
	r := rand.New(rand.NewSource(143))
	for range 100 {
		events := samples.Trace(r.Intn, 50)
		limit := samples.Limit(r.Intn)
		b := otherwise(r.Intn, limit, events)
		got, n := recovered(t, b)
		if n != len(b) || !sameEvents(got, events) {
			t.Fatalf("P14.5: %d of %d bytes, %d of %d events", n, len(b), len(got), len(events))
		}
		two := load(t, b, 99999)
		if e := two.record(limit); e != api.OK || two.rec.Len() != len(events) {
			t.Fatalf("P14.6: New = %d, Len %d of %d", e, two.rec.Len(), len(events))
		}
		more := samples.Events(r.Intn, 12, 4)
		for _, e := range more {
			two.emit(e)
		}
		two.sync()
		if got, _ := recovered(t, two.tape.Durable()); !sameEvents(got, append(events, more...)) {
			t.Fatalf("P14.11: %d of %d events", len(got), len(events)+len(more))
		}
	}
}

// TestChangedFrames: frames left out, doubled, exchanged, changed or taken from another recording, with their
// ords as they were or made anew.
func TestChangedFrames(t *testing.T) {
	r := rand.New(rand.NewSource(144))
	sorts := map[string]int{}
	for range 3000 {
		limit := samples.Limit(r.Intn)
		b := taped(t, limit, samples.Trace(r.Intn, 40)...)
		if r.Intn(2) == 0 {
			b = otherwise(r.Intn, limit, samples.Trace(r.Intn, 40))
		}
		fs, _, _ := frame.Split(b)
		other, _, _ := frame.Split(otherwise(r.Intn, limit, samples.Trace(r.Intn, 20)))
		k, l := r.Intn(len(fs)), r.Intn(len(fs))
		switch r.Intn(7) {
		case 0:
			fs = slices.Delete(fs, k, k+1)
		case 1:
			fs = slices.Insert(fs, l, fs[k])
		case 2:
			fs[k], fs[l] = fs[l], fs[k]
		case 3:
			fs[k].Body = slices.Concat(samples.Damage(r.Intn, [][]byte{fs[k].Body})...)
		case 4:
			fs[k] = other[r.Intn(len(other))]
		case 5:
			fs[k].Kind = 1 + r.Intn(6)
		case 6:
			fs[k].Stream = r.Intn(2)
		}
		same := samples.Joined(fs)
		if r.Intn(2) == 0 {
			same = bodied(fs...)
		}
		switch _, n := recovered(t, same); n {
		case 0:
			sorts["none"]++
		case len(same):
			sorts["all"]++
		default:
			sorts["some"]++
		}
	}
	if sorts["none"] < 100 || sorts["all"] < 100 || sorts["some"] < 100 {
		t.Errorf("seen were %v", sorts)
	}
}

// TestCuts: of every beginning of a recording just the frames are taken that are whole in it.
func TestCuts(t *testing.T) {
	r := rand.New(rand.NewSource(145))
	for range 8 {
		events := samples.Trace(r.Intn, 30)
		for _, b := range [][]byte{taped(t, 64, events...), otherwise(r.Intn, 64, events)} {
			fs, _, _ := frame.Split(b)
			for k := range len(b) + 1 {
				got, n := recovered(t, b[:k])
				if len(got) > len(events) || !sameEvents(got, events[:len(got)]) {
					t.Fatalf("P14.11: of %d bytes %d events that are not the first ones", k, len(got))
				}
				whole := 0
				for _, f := range fs {
					if whole+20+len(f.Body) > k {
						break
					}
					whole += 20 + len(f.Body)
				}
				if n != whole {
					t.Fatalf("P14.11: of %d bytes %d are taken, want %d", k, n, whole)
				}
			}
		}
	}
}

// TestAnyBytes: bytes of all sorts, with frames among them and without.
func TestAnyBytes(t *testing.T) {
	r := rand.New(rand.NewSource(146))
	good := taped(t, 64, samples.Events(r.Intn, 9, 3)...)
	for range 3000 {
		b := make([]byte, r.Intn(60))
		r.Read(b)
		if len(b) > 0 && r.Intn(2) == 0 {
			b[0] = 167
		}
		recovered(t, b)
		recovered(t, append(slices.Clone(good), b...))
		at := r.Intn(len(good))
		recovered(t, slices.Concat(good[:at], b, good[at:]))
	}
	for _, b := range [][]byte{nil, {}, {167}, []byte(strings.Repeat("\xa7", 99)), make([]byte, 99), good[26:]} {
		if _, n := recovered(t, b); n != 0 {
			t.Errorf("P14.5: %d bytes of %v", n, b)
		}
	}
}
