package ring_test

import (
	"bytes"
	"math/rand"
	"runtime"
	"slices"
	"strings"
	"testing"
	"unsafe"

	"hindsight/api"
	"hindsight/ring"
	"hindsight/samples"
)

// TestEmitKeepsNothing: neither a stack's list nor the room behind it, also of events that are refused.
func TestEmitKeepsNothing(t *testing.T) {
	r := rand.New(rand.NewSource(151))
	for range 100 {
		p := newPair(t, 1+r.Intn(12))
		for _, e := range samples.Trace(r.Intn, 40) {
			room := append(slices.Clone(e.Stack), "spare", "room")
			e.Stack = room[:len(room)-2]
			was := slices.Clone(room)
			p.emit(e)
			wrong := e
			wrong.Kind = 0
			p.emit(wrong)
			p.all(64, 1)
			if !slices.Equal(room, was) {
				t.Fatalf("P15.8: the stack that was handed in is %q, was %q", room, was)
			}
			samples.Spoil(room, "spoilt")
			p.all(64, 1)
		}
	}
}

// TestOneListForAll: the same list for each event, written over each time.
func TestOneListForAll(t *testing.T) {
	p := newPair(t, 4)
	list := make([]string, 0, api.MaxDepth)
	for k := range 20 {
		list = list[:0]
		for range k % 5 {
			list = append(list, strings.Repeat("x", k))
		}
		p.emit(api.Event{Kind: api.Mark, Obj: uint64(k), Stack: list})
		p.all(64, 1, 2)
	}
}

// TestFramesAreNotKept: frames over bytes that change later, as their maker knows.
func TestFramesAreNotKept(t *testing.T) {
	b := []byte("frame")
	x, _ := ring.New(2)
	x.Emit(api.Event{Kind: api.Mark, Stack: []string{unsafe.String(&b[0], len(b)), unsafe.String(&b[2], 3)}})
	copy(b, "other")
	if got := x.Snapshot()[0].Stack; !slices.Equal(got, []string{"frame", "ame"}) {
		t.Errorf("P15.8: the frames became %q", got)
	}
}

// spoil writes over all that an answer has, and over the room behind it.
func spoil(events []api.Event) {
	for _, e := range events {
		samples.Spoil(e.Stack, "spoilt")
		_ = append(e.Stack, "spoilt", "spoilt")
	}
	samples.Spoil(events, api.Event{G: 9, Kind: 9, Stack: []string{"spoilt"}})
}

// TestAnswersAreNewMemory: what is done to an answer is seen in no other one, and not in the ring.
func TestAnswersAreNewMemory(t *testing.T) {
	r := rand.New(rand.NewSource(152))
	for range 100 {
		p := newPair(t, 1+r.Intn(12))
		for _, e := range samples.Trace(r.Intn, 40) {
			p.emit(e)
			kept, window := p.ring.Snapshot(), p.ring.Window(2)
			text, _ := p.ring.File(64)
			want := bytes.Clone(text)
			spoil(p.ring.Snapshot())
			spoil(p.ring.Window(1))
			spoil(p.ring.Window(99))
			other, _ := p.ring.File(64)
			samples.Spoil(other, 77)
			p.all(64, 1, 2, 99)
			if !same(kept, p.plain.held()) || !same(window, p.plain.window(2)) || !bytes.Equal(text, want) {
				t.Fatalf("P15.8: two answers share memory")
			}
		}
	}
}

// TestAnswersStay: what was answered is not changed by what the ring takes later.
func TestAnswersStay(t *testing.T) {
	r := rand.New(rand.NewSource(153))
	p := newPair(t, 5)
	var answers, want [][]api.Event
	for range 60 {
		p.emit(samples.Event(r.Intn, 3))
		answers = append(answers, p.ring.Snapshot(), p.ring.Window(1))
		want = append(want, slices.Clone(p.plain.held()), p.plain.window(1))
	}
	for k := range answers {
		if !same(answers[k], want[k]) {
			t.Fatalf("P15.8: the answer %d became %v, was %v", k, answers[k], want[k])
		}
	}
}

// TestNoTwoShareAList: of one answer, also where one event was told again and again.
func TestNoTwoShareAList(t *testing.T) {
	x, _ := ring.New(6)
	e := api.Event{Kind: api.Mark, Stack: []string{"f", "g", "main"}}
	for range 9 {
		x.Emit(e)
	}
	for _, ask := range []func() []api.Event{x.Snapshot, func() []api.Event { return x.Window(4) }} {
		answer := ask()
		for k := range answer {
			_ = append(answer[k].Stack, "more", "more")
			samples.Spoil(answer[k].Stack, "spoilt")
			for l := k + 1; l < len(answer); l++ {
				if !same(answer[l:l+1], []api.Event{e}) {
					t.Fatalf("P15.8: the events %d and %d share a list", k, l)
				}
			}
		}
	}
}

// inUse is how much memory is in use.
func inUse() int {
	runtime.GC()
	var m runtime.MemStats
	runtime.ReadMemStats(&m)
	return int(m.HeapAlloc)
}

// TestMemoryDoesNotGrow: neither by what is lost, nor by long texts of which a frame is a small part, nor
// by long lists of which a stack is a small part.
func TestMemoryDoesNotGrow(t *testing.T) {
	const most = 8 << 20 // bytes; each of the three would need eight times as many
	x, _ := ring.New(200)
	before := inUse()
	for k := range 1000 {
		x.Emit(api.Event{Kind: api.Mark, Stack: []string{strings.Repeat(string([]byte{byte(k)}), api.MaxSite)}})
	}
	for range 200 {
		x.Emit(mark(0, 0))
	}
	if grown := inUse() - before; grown > most {
		t.Errorf("P15.2: %d bytes are kept of events that are lost", grown)
	}
	for k := range 200 {
		text := strings.Repeat(string([]byte{byte(k)}), 5*api.MaxSite)
		x.Emit(api.Event{Kind: api.Mark, Stack: []string{text[7:9]}})
	}
	if grown := inUse() - before; grown > most {
		t.Errorf("P15.8: %d bytes are kept for frames of two bytes", grown)
	}
	for k := range 200 {
		list := make([]string, 5<<12)
		x.Emit(api.Event{Kind: api.Mark, Stack: list[k : k+k%2]})
	}
	if grown := inUse() - before; grown > most {
		t.Errorf("P15.8: %d bytes are kept for stacks of at most one frame", grown)
	}
	if x.Len() != 200 || x.Lost() != 1400 {
		t.Errorf("P15.3: Len %d, Lost %d", x.Len(), x.Lost())
	}
}
