package dump_test

import (
	"math/rand"
	"slices"
	"testing"
	"unsafe"

	"hindsight/api"
	"hindsight/dump"
	"hindsight/event"
	"hindsight/samples"
)

// fickle is a string over bytes that change later, as its maker knows.
func fickle(s string) (string, []byte) {
	b := []byte(s)
	return unsafe.String(unsafe.SliceData(b), len(b)), b
}

// some are strings whose words have escapes, and such as have none.
var some = []string{"f", "main", "main.go:7", "a b", "\xc3\xa9\xef\xbf\xbd", `a"b`, "\n", "\x00\xff", "x\\y"}

// TestStringsAreNew: what is handed in changes behind the call, and the answers stand.
func TestStringsAreNew(t *testing.T) {
	for _, s := range some {
		from, b := fickle(s)
		word := dump.Quote(from)
		samples.Spoil(b, 'z')
		if word != plainQuote(s) {
			t.Errorf("P23.9: the word of %q became %s", s, word)
		}
		from, b = fickle(plainQuote(s))
		back, _ := dump.Unquote(from)
		samples.Spoil(b, 'z')
		if back != s {
			t.Errorf("P23.9: the string of %s became %q", plainQuote(s), back)
		}
	}
	from, b := fickle(plainLine(mark(some...)))
	e, _ := dump.ParseLine(from)
	samples.Spoil(b, 'z')
	if !event.Same(e, mark(some...)) {
		t.Errorf("P23.9: the event became %v", e)
	}
	from, b = fickle(plainDump(single(some...)))
	trace, _, _ := dump.Parse(from)
	samples.Spoil(b, 'z')
	if !sameEvents(trace, single(some...)) {
		t.Errorf("P23.9: the trace became %v", trace)
	}
}

// fickleTrace is a trace over bytes that change later, with spare room behind the list and behind each stack.
func fickleTrace(trace []api.Event) (list []api.Event, bytes [][]byte) {
	list = append(make([]api.Event, 0, len(trace)+2), trace...)
	for k := range list {
		stack := make([]string, 0, len(trace[k].Stack)+2)
		for _, frame := range trace[k].Stack {
			from, b := fickle(frame)
			stack, bytes = append(stack, from), append(bytes, b)
		}
		list[k].Stack = stack
	}
	return list, bytes
}

// TestEventsStay: neither a list nor the room behind it is changed; what becomes of it later changes no answer.
func TestEventsStay(t *testing.T) {
	r := rand.New(rand.NewSource(2331))
	spoilt := api.Event{G: 99, Kind: 98, Obj: 97, Arg: 96, Stack: []string{"spoilt"}}
	for range 300 {
		trace := append(samples.Trace(r.Intn, 8), mark(some...), write)
		if r.Intn(4) == 0 {
			trace = append(trace, api.Event{Kind: 40, Stack: slices.Clone(some)})
		}
		list, bytes := fickleTrace(trace)
		text, fault := dump.Dump(list)
		var events []string
		for _, e := range list {
			line, _ := dump.Line(e)
			events = append(events, line)
		}
		if !sameEvents(list, trace) || !event.Same(list[:cap(list)][len(list)], api.Event{}) {
			t.Fatalf("P23.9: %v became %v", trace, list)
		}
		for k := range list {
			if room := list[k].Stack; slices.Max(room[len(room):cap(room)]) != "" {
				t.Fatalf("P23.9: the room behind a stack became %q", room[:cap(room)])
			}
		}
		for _, b := range bytes {
			samples.Spoil(b, 'z')
		}
		for k := range list {
			samples.Spoil(list[k].Stack, "spoilt")
		}
		samples.Spoil(list, spoilt)
		if fault == api.OK && text != plainDump(trace) {
			t.Fatalf("P23.9: the text of %v became %q", trace, text)
		}
		for k, e := range trace {
			if event.Check(e) == api.OK && events[k] != plainLine(e) {
				t.Fatalf("P23.9: the line of %v became %q", e, events[k])
			}
		}
	}
}

// TestEventsAreNew: who writes over an event that was read, over its stack or the room behind it, changes no other
// one, of no other answer either.
func TestEventsAreNew(t *testing.T) {
	r := rand.New(rand.NewSource(2332))
	for range 300 {
		trace := samples.Trace(r.Intn, 8)
		trace = append(trace, write, write, mark(some...), mark(some[:3]...), mark(some[:5]...), mark())
		text := plainDump(trace)
		one, _, _ := dump.Parse(text)
		other, _, _ := dump.Parse(text)
		alone, _ := dump.ParseLine(plainLine(trace[0]))
		for k := range one {
			samples.Spoil(one[k].Stack, "spoilt")
			_ = append(one[k].Stack, "spoilt", "spoilt")
			one[k] = api.Event{Kind: 99}
			if !sameEvents(one[k+1:], trace[k+1:]) {
				t.Fatalf("P23.9: of %v two events share a stack", trace)
			}
		}
		samples.Spoil(one, api.Event{Kind: 98})
		if !sameEvents(other, trace) || !event.Same(alone, trace[0]) {
			t.Fatalf("P23.9: two answers of %v share memory", trace)
		}
		again, _, _ := dump.Parse(text)
		if !sameEvents(again, trace) || text != plainDump(trace) {
			t.Fatalf("P23.9: what was written into an answer is seen in a later one")
		}
	}
}

// TestLineStacksAreNew: the same of events that are read one by one.
func TestLineStacksAreNew(t *testing.T) {
	line := plainLine(mark(some...))
	one, _ := dump.ParseLine(line)
	other, _ := dump.ParseLine(line)
	samples.Spoil(one.Stack, "spoilt")
	again, _ := dump.ParseLine(line)
	if !event.Same(other, mark(some...)) || !event.Same(again, other) {
		t.Errorf("P23.9: two events of one line share a stack: %v, %v", other, again)
	}
}
